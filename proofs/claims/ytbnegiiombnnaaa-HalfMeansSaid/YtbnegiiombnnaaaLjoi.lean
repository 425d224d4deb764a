/- The law HalfJoins. -/
import Derived.Test.YtbnegiiombnnaaaRjo
import Derived.Test.YtbnegiiombnnaaaLaw
namespace Go.Proofs.Ytbnegiiombnnaaa
open Go.ChangeShapes Go.WideShapes Go.ChangeAt Go.RowKit

theorem SecsAt.flat {w : World} {b : Nat} : ∀ {ss : List (List UInt8)} {off : Nat}, SecsAt w b off ss → w.rangeAt b off (cellsB ss.flatten)
  | [], off, _ => fun j v hv => by simp [cellsB] at hv
  | s :: ss, off, h => fun j v hv => by
    obtain ⟨hl, hr⟩ := h 0 s rfl
    have ht : SecsAt w b (off + 128) ss := fun i x hi => by
      have := h (i + 1) x hi
      have e : off + (i + 1) * 128 = off + 128 + i * 128 := by omega
      rw [e] at this
      exact this
    have ih := SecsAt.flat ht
    rw [List.flatten_cons, cellsB_app] at hv
    by_cases hj : j < 128
    · rw [List.getElem?_append_left (by rw [cellsB_len, hl]; exact hj)] at hv
      have := hr j v hv
      rw [Nat.zero_mul, Nat.add_zero] at this
      exact this
    · rw [List.getElem?_append_right (by rw [cellsB_len, hl]; omega), cellsB_len, hl] at hv
      have := ih (j - 128) v hv
      have e : off + 128 + (j - 128) = off + j := by omega
      rw [e] at this
      exact this
theorem flat128 : ∀ {ss : List (List UInt8)}, (∀ s ∈ ss, s.length = 128) → ss.flatten.length = ss.length * 128 ∧ secs ss.flatten ss.length = ss
  | [], _ => ⟨rfl, rfl⟩
  | s :: ss, h => by
    obtain ⟨h1, h2⟩ := flat128 (ss := ss) (fun x hx => h x (by simp [hx]))
    have hl := h s (by simp)
    refine ⟨by rw [List.flatten_cons, List.length_append, h1, hl, List.length_cons]; omega, ?_⟩
    have e : (s :: ss).length = 1 + ss.length := by simp; omega
    rw [List.flatten_cons, e, secs_app (a := 1) (by rw [hl]), h2]
    have : secs s 1 = [s] := by simp [secs, List.range_succ, List.take_of_length_le (Nat.le_of_eq hl)]
    rw [this]
    rfl
theorem SecV.all128 {w : World} {v : Value} {ss : List (List UInt8)} (h : SecV w v ss) : ∀ s ∈ ss, s.length = 128 := fun s hm => by
  obtain ⟨A, ca, _, _, _, h3⟩ := h
  obtain ⟨i, hi⟩ := List.getElem?_of_mem hm
  have hlt : i < ss.length := (List.getElem?_eq_some_iff.1 hi).1
  obtain ⟨b, off, _, hs⟩ := h3 (by omega)
  exact (hs i s hi).1
theorem sec_same (l : List UInt8) (hl : l.length = 128) (w : World) : (Op.equalIn 10000 37 (.agg (cellsB l).toArray) (.agg (cellsB l).toArray)).run Try.prog w = .ok true w := by
  have h : (Op.equalIn 10000 37 (.agg (cellsB l).toArray) (.agg (cellsB l).toArray)).run Try.prog w = .ok (decide (l = l)) w := sec_equal l l hl hl w
  rw [h, decide_eq_true rfl]
section
variable {ops : Array Oper} {o : Oper} {a : Act} {Q : Exit → Act → World → Prop}
/-- Sectors put behind nothing: their copy. -/
theorem wpList_copy_secs {rest : List Oper} {w : World} (hg : o.guard = none) (x : Operand) (hop : o.op = Op.call { callee := Callee.builtin Builtin.append, args := #[.const (.slice none 0 0), x], argTypes := #[27, 27] })
    {v : Value} {ss : List (List UInt8)} {n : Nat} (h : SecV w v ss) (hn : ss.length = n) (hx : a.eval x = v) (hN : n ≤ 1000000)
    (hK : ∀ A' c' w', SecV w' (.slice A' n c') ss → Fr (fun _ => False) w w' → wpList Try.prog ops Q rest (a.put o.dst (.slice A' n c')) w') : wpList Try.prog ops Q (o :: rest) a w := by
  obtain ⟨i0, hi, hz0, hz1, hz2⟩ := info_parts infoSec
  refine wpList_plain hg fun K hK' => ?_
  subst hn
  have hcv : a.eval (.const (.slice none 0 0)) = .slice none 0 0 := rfl
  have h128 := h.all128
  obtain ⟨A, ca, rfl, hc1, hc2, h3⟩ := h
  rcases Nat.eq_zero_or_pos ss.length with h0 | h0
  · have hk := hK none 0 w ⟨none, 0, rfl, by omega, Nat.zero_le _, fun q => by omega⟩ (Fr.refl _ _)
    rw [h0] at hx hk
    have hrun : (Builtin.append_ #[27, 27] o.type #[.slice none 0 0, .slice A 0 ca]).run Try.prog w = .ok (.slice none 0 0) w := by
      cases A <;> simp [Builtin.append_, run_underlying Try.underlying27, sizeOf, typeInfo, hi, Builtin.lenOf, Builtin.firstCells, loadCells, loadCellsFrom]
    unfold Oper.wp
    simp [execOp, hop, resolve, invoke, builtin, hcv, hx, hrun, Result.andThen]
    exact hK' _ _ hk
  · obtain ⟨b, off, rfl, hs⟩ := h3 h0
    have hfl := flat128 h128
    obtain ⟨v', w', hrun, h2, h3, _, _⟩ := run_append_own_at (P := Try.prog) w w.heap.size 27 o.type 37 i0 (av (nought 128)) 128 128 Try.underlying27 hi hz0 hz1 hz2 (by simp [Value.cells, cellsB_len, nought_len]) (by omega) (.slice none 0 0) 0 [] (World.ownsRow_nil _ _ _ _) ⟨b, off, none⟩ ss.length ca (cellsB ss.flatten)
      (by rw [cellsB_len, hfl.1]) (fun j u hj => by
        rw [Addr.add_mid]
        exact hs.flat j u hj) (cellsB_one _) (by simp only [maxLen]; omega) (by omega) (Nat.le_refl _)
    rw [Nat.zero_add, List.nil_append] at h2
    obtain ⟨A', c', rfl, _, _⟩ := own_slice h2
    have hv := secV_own1 h2 hfl.1
    rw [hfl.2] at hv
    have hk := hK A' c' w' hv ((Fr.refl _ w).grown h3 (fun j hj => by cases hj))
    unfold Oper.wp
    simp [execOp, hop, resolve, invoke, builtin, hcv, hx, hrun, Result.andThen]
    exact hK' _ _ hk
end

set_option maxRecDepth 100000 in
set_option maxHeartbeats 8000000 in
theorem joins_any {w : World} {v : Value} {ss : List (List UInt8)} (h : SecV w v ss) (sa sb : List UInt8) (ha : sa.length = 128) (hb : sb.length = 128) :
    Calls Try.prog 4 #[v, av sa, av sb] w fun e w' => e = .returned (.bool true) ∧ Fr (fun _ => False) w w' := by
  have hf0 : Fr (fun _ => False) w ((w.alloc (.cells (cellsB sa).toArray 37)).alloc (.cells (cellsB sb).toArray 37)) := ((Fr.refl _ w).alloc _).alloc _
  have k0 : Blk ((w.alloc (.cells (cellsB sa).toArray 37)).alloc (.cells (cellsB sb).toArray 37)) w.heap.size 37 (cellsB sa).toArray := (Blk.new w _ _).keep (F := fun _ => False) ((Fr.refl _ _).alloc _) (fun q => q)
  have k1 : Blk ((w.alloc (.cells (cellsB sa).toArray 37)).alloc (.cells (cellsB sb).toArray 37)) (w.heap.size + 1) 37 (cellsB sb).toArray := by
    have := Blk.new (w.alloc (.cells (cellsB sa).toArray 37)) 37 (cellsB sb).toArray
    have e : (w.alloc (.cells (cellsB sa).toArray 37)).heap.size = w.heap.size + 1 := by simp
    rwa [e] at this
  have HL := Lib.hid (And.intro ha hb)
  have h0 := h
  obtain ⟨A, ca, rfl, hc1, hc2, _⟩ := h
  have hsv := h0.new hf0
  have h128 := h0.all128
  obtain ⟨n, hn⟩ : ∃ n, n = ss.length := ⟨_, rfl⟩
  rw [← hn] at hc1 hsv ⊢
  have hn9 : n ≤ 9223372036854775807 := by simp only [maxLen] at hc2; omega
  obtain ⟨W, hW⟩ : ∃ W, W = ((w.alloc (.cells (cellsB sa).toArray 37)).alloc (.cells (cellsB sb).toArray 37)) := ⟨_, rfl⟩
  rw [← hW] at hf0 k0 k1 hsv
  have HW := Lib.hid hW
  have HN := Lib.hid hn
  have HS := Lib.hid h128
  have HK := Lib.hid (And.intro k0 (And.intro k1 (And.intro hf0 hsv)))
  clear h0 hc1 hc2 ha hb hf0 k0 k1 hsv hW hn h128
  by_cases hbig : 700 < n
  · have hd : decide ((700 : Int) < (n : Int)) = true := by rw [decide_eq_true_eq]; omega
    clear hbig
    go_enter Try.func4, Try.ntmps4
    go_wp2_with (refine wpList_put rfl 37 _ rfl _ rfl ?_)
    refine (known_any _).mono ?_
    rintro e w2 ⟨rfl, hf2⟩
    rw [← HW.out] at hf2
    have HF2 := Lib.hid (HK.out.2.2.1.trans hf2 (fun _ _ q => q))
    clear hf2
    go_wp2_with fail
    go_ret
    exact ⟨rfl, HF2.out⟩
  · have hd : decide ((700 : Int) < (n : Int)) = false := by rw [decide_eq_false_iff_not]; omega
    have hn7 : n ≤ 700 := by omega
    clear hbig hn9
    go_enter Try.func4, Try.ntmps4
    have hsv := HK.out.2.2.2
    rw [HW.out] at hsv
    have HSV := Lib.hid hsv
    clear hsv
    go_wp2_with (first
      | (refine wpList_put rfl 37 _ rfl _ rfl ?_)
      | (refine wpList_copy_secs rfl (.tmp 20) rfl HSV.out HN.out.symm rfl (by omega) ?_; intro A7 c7 w7 hv7 hf7; rw [← HW.out] at hf7; have H7 := Lib.hid (And.intro hv7 hf7); clear hv7 hf7))
    refine (join_any H7.out.1.in_ (by rw [← HN.out]; omega)).mono ?_
    rintro e w8 hj8
    have hf78 := H7.out.2.trans hj8.2.2 (fun _ _ q => q)
    have H8 := Lib.hid (And.intro hf78 (H7.out.1.new hj8.2.2))
    have HR9 := Lib.hid fun w9 (f : Fr (fun _ => False) w8 w9) => rjoin_any (HK.out.2.2.2.new (hf78.trans f (fun _ _ q => q))) (by rw [← HN.out]; omega : ss.length ≤ 1000)
    have hRJ := refJ_eq HS.out
    obtain ⟨t, ht⟩ : ∃ t, t = tagAt ss := ⟨_, rfl⟩
    obtain ⟨o, ho⟩ : ∃ o, o = joinOf ss := ⟨_, rfl⟩
    rw [← ho] at hRJ
    rw [← ht, ← ho] at hj8
    rw [← ht, hRJ] at HR9
    clear hRJ ht ho hf78
    cases o with
    | none =>
      obtain rfl := hj8.1 rfl
      clear hj8
      have hfa8 : Fr (fun _ => False) w8 (w8.alloc (.cells #[.int .u64 (0), .int .i64 (0)] 24)) := (Fr.refl _ w8).alloc _
      have hb8 := Blk.new w8 24 #[.int .u64 (0), .int .i64 (0)]
      have HA8 := Lib.hid (And.intro hb8 hfa8)
      clear hb8 hfa8
      go_wp2_with fail
      refine (HR9.out _ HA8.out.2).mono ?_
      rintro e w10 hj10
      obtain rfl := hj10.1 rfl
      have hfr := HA8.out.2.trans hj10.2.2 (fun _ _ q => q)
      have hb8 := HA8.out.1.keep hj10.2.2 (fun q => q)
      have hb12 := Blk.new w10 24 #[.int .u64 (0), .int .i64 (0)]
      have hfa : Fr (fun _ => False) w10 (w10.alloc (.cells #[.int .u64 (0), .int .i64 (0)] 24)) := (Fr.refl _ w10).alloc _
      have hb8' := hb8.keep hfa (fun q => q)
      have hfr' := hfr.trans hfa (fun _ _ q => q)
      have hconv : ∀ W, (convert 25 9 (.slice none 0 0)).run Try.prog W = .ok (.string ⟨([] : List UInt8).toArray⟩) W := fun W => conv_string (P := Try.prog) 25 9 5 (Rd.nil W none) Try.underlying25 Try.underlying5 Try.underlying9
      have hconv2 := hconv
      have H10 := Lib.hid (And.intro (H8.out.1.trans hfr' (fun _ _ q => q)) (And.intro (H8.out.2.new hfr') (HK.out.2.2.2.new (H8.out.1.trans hfr' (fun _ _ q => q)))))
      have hneq : ∀ W, (binOp .neq 24 (.agg #[.int .u64 (0), .int .i64 (0)]) (.agg #[.int .u64 (0), .int .i64 (0)])).run Try.prog W = .ok (.bool false) W := fun W => by
        have := tag_neq (0) (0) (0) (0) W
        rw [tagEq_iff.2 ⟨rfl, rfl⟩] at this
        exact this
      go_upto_region 6 with fail
      generalize (w10.alloc (.cells #[.int .u64 (0), .int .i64 (0)] 24)) = W10 at *
      have d0 := hb8'.cell 0
      have d1 := hb8'.cell 1
      have d2 := hb12.cell 0
      have d3 := hb12.cell 1
      simp at d0 d1 d2 d3
      clear hj10 hfr hb8 hb12 hfa hb8' hfr' HR9 HA8 H8 
      go_wp2_with fail
      refine (same_any H10.out.2.1 H10.out.2.2).mono ?_
      rintro e w9 ⟨rfl, hf9⟩
      have hb4 := HK.out.1.keep (H10.out.1.trans hf9 (fun _ _ q => q)) (fun q => q)
      have hb5 := HK.out.2.1.keep (H10.out.1.trans hf9 (fun _ _ q => q)) (fun q => q)
      have HC : Hid (∀ w', Fr (fun _ => False) w9 w' → w'.rangeAt w.heap.size 0 (cellsB sa) ∧ w'.rangeAt (w.heap.size + 1) 0 (cellsB sb)) := Lib.hid fun w' f => by
        have q1 := (hb4.keep f (fun q => q)).range 0 128
        have q2 := (hb5.keep f (fun q => q)).range 0 128
        rw [List.drop_zero, List.take_of_length_le (Nat.le_of_eq HL.out.1)] at q1
        rw [List.drop_zero, List.take_of_length_le (Nat.le_of_eq HL.out.2)] at q2
        exact ⟨q1, q2⟩
      have HRT : Hid (∀ w', Fr (fun _ => False) w9 w' → Calls Try.prog 17 #[.slice (some ⟨w.heap.size, 0, none⟩) 64 128] w' fun e w'' => e = .returned (tagV (tagOf sa)) ∧ Fr (fun _ => False) w' w'') := Lib.hid fun w' f => by
        have q := ((bytes_rd (hb4.keep f (fun q => q)) HL.out.1 (by omega)).take (k := 64) (by omega))
        exact rtag_any q (by omega)
      have HTL : Hid ((tornOf sa sb).length = 128) := Lib.hid (by unfold tornOf; rw [List.length_append, List.length_take, List.length_drop, HL.out.1, HL.out.2]; rfl)
      have HF9 := Lib.hid (HK.out.2.2.1.trans (H10.out.1.trans hf9 (fun _ _ q => q)) (fun _ _ q => q))
      clear hf9 hb4 hb5 hneq d0 d1 d2 d3 H10 hconv hconv2
      go_wp2_with fail
      refine wp_region_held_drew (S := fun w' => Fr (fun _ => False) w9 w') (by kernel_rfl) ((Fr.refl _ _).drew) (fun hS0 => ?_)
      refine anyH_take 0 71 (.agg (cellsB sa).toArray) rfl rfl (by kernel_rfl) (by kernel_rfl) (by kernel_rfl) (fun _ _ _ h => h) (yieldsIf_load_mid (by rfl) _ _ rfl _ _ rfl _ _ (fun w' f => (HC.out w' f).1) Try.underlying37 rfl (by rw [infoSector, cellsB_len, HL.out.1])) hS0 ?_
      (simp only [List.setIfInBounds_toArray, List.set_cons_zero, List.set_cons_succ])
      refine anyH_take 2 73 (.slice (some ⟨w.heap.size, 0, none⟩) 64 128) rfl rfl (by kernel_rfl) (by kernel_rfl) (by kernel_rfl) (fun _ _ _ h => h) (.inl ⟨by rfl, fun w'' hS => by go_simp⟩) hS0 ?_
      (simp only [List.setIfInBounds_toArray, List.set_cons_zero, List.set_cons_succ])
      refine anyH_one 1 72 (tagV (tagOf sa)) (by kernel_rfl) (tame_call 72 rfl rfl (by rfl) (fun w'' hS => by go_simp) (fun w'' hS => ((tag_any w'' sa HL.out.1).mono fun e w3 he => ⟨he.1, hS.trans he.2 (fun _ _ q => q)⟩))) hS0 (fun wa hS0 => ?_)
      (simp only [List.setIfInBounds_toArray, List.set_cons_zero, List.set_cons_succ])
      refine anyH_one 3 74 (tagV (tagOf sa)) (by kernel_rfl) (tame_call 74 rfl rfl (by rfl) (fun w'' hS => by go_simp) (fun w'' hS => ((HRT.out w'' hS).mono fun e w3 he => ⟨he.1, hS.trans he.2 (fun _ _ q => q)⟩))) hS0 (fun wb hS0 => ?_)
      (simp only [List.setIfInBounds_toArray, List.set_cons_zero, List.set_cons_succ])
      refine anyH_take 4 75 (.bool true) rfl rfl (by kernel_rfl) (by kernel_rfl) (by kernel_rfl) (fun _ _ _ h => h) (.inl ⟨by rfl, fun w'' hS => by have q0 := tag_eql (tagOf sa).1 ((tagOf sa).2 : Nat) (tagOf sa).1 ((tagOf sa).2 : Nat) w''; (rw [tagEq_iff.2 ⟨rfl, rfl⟩] at q0; go_simp)⟩) hS0 ?_
      (simp only [List.setIfInBounds_toArray, List.set_cons_zero, List.set_cons_succ])
      refine anyH_take 5 76 (.bool true) rfl rfl (by kernel_rfl) (by kernel_rfl) (by kernel_rfl) (fun _ _ _ h => h) (.inl ⟨by rfl, fun w'' hS => by go_simp⟩) hS0 ?_
      (simp only [List.setIfInBounds_toArray, List.set_cons_zero, List.set_cons_succ])
      refine anyH_take 6 77 (.agg (cellsB sa).toArray) rfl rfl (by kernel_rfl) (by kernel_rfl) (by kernel_rfl) (fun _ _ _ h => h) (yieldsIf_load_mid (by rfl) _ _ rfl _ _ rfl _ _ (fun w' f => (HC.out w' f).1) Try.underlying37 rfl (by rw [infoSector, cellsB_len, HL.out.1])) hS0 ?_
      (simp only [List.setIfInBounds_toArray, List.set_cons_zero, List.set_cons_succ])
      refine anyH_take 7 78 (.agg (cellsB sb).toArray) rfl rfl (by kernel_rfl) (by kernel_rfl) (by kernel_rfl) (fun _ _ _ h => h) (yieldsIf_load_mid (by rfl) _ _ rfl _ _ rfl _ _ (fun w' f => (HC.out w' f).2) Try.underlying37 rfl (by rw [infoSector, cellsB_len, HL.out.2])) hS0 ?_
      (simp only [List.setIfInBounds_toArray, List.set_cons_zero, List.set_cons_succ])
      refine anyH_take 9 80 (.agg (cellsB sa).toArray) rfl rfl (by kernel_rfl) (by kernel_rfl) (by kernel_rfl) (fun _ _ _ h => h) (yieldsIf_load_mid (by rfl) _ _ rfl _ _ rfl _ _ (fun w' f => (HC.out w' f).1) Try.underlying37 rfl (by rw [infoSector, cellsB_len, HL.out.1])) hS0 ?_
      (simp only [List.setIfInBounds_toArray, List.set_cons_zero, List.set_cons_succ])
      refine anyH_take 10 81 (.agg (cellsB sb).toArray) rfl rfl (by kernel_rfl) (by kernel_rfl) (by kernel_rfl) (fun _ _ _ h => h) (yieldsIf_load_mid (by rfl) _ _ rfl _ _ rfl _ _ (fun w' f => (HC.out w' f).2) Try.underlying37 rfl (by rw [infoSector, cellsB_len, HL.out.2])) hS0 ?_
      (simp only [List.setIfInBounds_toArray, List.set_cons_zero, List.set_cons_succ])
      refine anyH_one 8 79 (av (tornOf sa sb)) (by kernel_rfl) (tame_call 79 rfl rfl (by rfl) (fun w'' hS => by go_simp) (fun w'' hS => ((torn_any w'' sa sb HL.out.1 HL.out.2).mono fun e w3 he => ⟨he.1, hS.trans he.2 (fun _ _ q => q)⟩))) hS0 (fun wc hS0 => ?_)
      (simp only [List.setIfInBounds_toArray, List.set_cons_zero, List.set_cons_succ])
      refine anyH_one 11 82 (av (tornOf sa sb)) (by kernel_rfl) (tame_call 82 rfl rfl (by rfl) (fun w'' hS => by go_simp) (fun w'' hS => ((rtorn_any w'' sa sb HL.out.1 HL.out.2).mono fun e w3 he => ⟨he.1, hS.trans he.2 (fun _ _ q => q)⟩))) hS0 (fun wd hS0 => ?_)
      (simp only [List.setIfInBounds_toArray, List.set_cons_zero, List.set_cons_succ])
      refine anyH_take 12 83 (.bool true) rfl rfl (by kernel_rfl) (by kernel_rfl) (by kernel_rfl) (fun _ _ _ h => h) (.inl ⟨by rfl, fun w'' hS => by have q0 := sec_same (tornOf sa sb) HTL.out w''; go_simp⟩) hS0 ?_
      (simp only [List.setIfInBounds_toArray, List.set_cons_zero, List.set_cons_succ])
      refine anyH_take 13 84 (.bool true) rfl rfl (by kernel_rfl) (by kernel_rfl) (by kernel_rfl) (fun _ _ _ h => h) (.inl ⟨by rfl, fun w'' hS => by go_simp⟩) hS0 ?_
      (simp only [List.setIfInBounds_toArray, List.set_cons_zero, List.set_cons_succ])
      refine anyH_take 14 85 (.bool true) rfl rfl (by kernel_rfl) (by kernel_rfl) (by kernel_rfl) (fun _ _ _ h => h) (.inl ⟨by rfl, fun w'' hS => by go_simp⟩) hS0 ?_
      (simp only [List.setIfInBounds_toArray, List.set_cons_zero, List.set_cons_succ])
      refine anyH_one 15 86 (.bool true) (by kernel_rfl) (tame_call 86 rfl rfl (by rfl) (fun w'' hS => by go_simp) (fun w'' hS => ((known_any w'').mono fun e w3 he => ⟨he.1, hS.trans he.2 (fun _ _ q => q)⟩))) hS0 (fun we hS0 => ?_)
      (simp only [List.setIfInBounds_toArray, List.set_cons_zero, List.set_cons_succ])
      refine anyH_take 16 87 (.bool true) rfl rfl (by kernel_rfl) (by kernel_rfl) (by kernel_rfl) (fun _ _ _ h => h) (.inl ⟨by rfl, fun w'' hS => by go_simp⟩) hS0 ?_
      (simp only [List.setIfInBounds_toArray, List.set_cons_zero, List.set_cons_succ])
      refine anyH_take 17 6 (.bool true) rfl rfl (by kernel_rfl) (by kernel_rfl) (by kernel_rfl) (fun _ _ _ h => h) (.inl ⟨by rfl, fun w'' hS => by go_simp⟩) hS0 ?_
      (simp only [List.setIfInBounds_toArray, List.set_cons_zero, List.set_cons_succ])
      refine wpAnyH_done (by kernel_rfl) ?_ _
      have HFE := Lib.hid (HF9.out.trans hS0 (fun _ _ q => q))
      clear hS0
      go_wp2_with fail
      go_ret
      exact ⟨rfl, HFE.out⟩
    | some b =>
      obtain ⟨A9, rfl, hrd9⟩ := hj8.2.1 b rfl
      clear hj8
      have hfa8 : Fr (fun _ => False) w8 (w8.alloc (.cells #[.int .u64 ((t.1 : Nat)), .int .i64 (((t.2 : Nat) : Int))] 24)) := (Fr.refl _ w8).alloc _
      have hb8 := Blk.new w8 24 #[.int .u64 ((t.1 : Nat)), .int .i64 (((t.2 : Nat) : Int))]
      have HA8 := Lib.hid (And.intro hb8 hfa8)
      clear hb8 hfa8
      go_wp2_with fail
      refine (HR9.out _ HA8.out.2).mono ?_
      rintro e w10 hj10
      obtain ⟨A10, c10, rfl, hrd10⟩ := hj10.2.1 b rfl
      have hfr := HA8.out.2.trans hj10.2.2 (fun _ _ q => q)
      have hb8 := HA8.out.1.keep hj10.2.2 (fun q => q)
      have hb12 := Blk.new w10 24 #[.int .u64 ((t.1 : Nat)), .int .i64 (((t.2 : Nat) : Int))]
      have hfa : Fr (fun _ => False) w10 (w10.alloc (.cells #[.int .u64 ((t.1 : Nat)), .int .i64 (((t.2 : Nat) : Int))] 24)) := (Fr.refl _ w10).alloc _
      have hb8' := hb8.keep hfa (fun q => q)
      have hfr' := hfr.trans hfa (fun _ _ q => q)
      have hconv := conv_string (P := Try.prog) 25 9 5 (c := b.length) (hrd9.keep hfr' (fun _ _ q => q)) Try.underlying25 Try.underlying5 Try.underlying9
      have hconv2 := conv_string (P := Try.prog) 25 9 5 (c := c10) (hrd10.keep hfa (fun _ _ q => q)) Try.underlying25 Try.underlying5 Try.underlying9
      have H10 := Lib.hid (And.intro (H8.out.1.trans hfr' (fun _ _ q => q)) (And.intro (H8.out.2.new hfr') (HK.out.2.2.2.new (H8.out.1.trans hfr' (fun _ _ q => q)))))
      have hneq : ∀ W, (binOp .neq 24 (.agg #[.int .u64 ((t.1 : Nat)), .int .i64 (((t.2 : Nat) : Int))]) (.agg #[.int .u64 ((t.1 : Nat)), .int .i64 (((t.2 : Nat) : Int))])).run Try.prog W = .ok (.bool false) W := fun W => by
        have := tag_neq (t.1) (((t.2 : Nat) : Int)) (t.1) (((t.2 : Nat) : Int)) W
        rw [tagEq_iff.2 ⟨rfl, rfl⟩] at this
        exact this
      go_upto_region 6 with fail
      generalize (w10.alloc (.cells #[.int .u64 ((t.1 : Nat)), .int .i64 (((t.2 : Nat) : Int))] 24)) = W10 at *
      have d0 := hb8'.cell 0
      have d1 := hb8'.cell 1
      have d2 := hb12.cell 0
      have d3 := hb12.cell 1
      simp at d0 d1 d2 d3
      clear hj10 hfr hb8 hb12 hfa hb8' hfr' HR9 HA8 H8 hrd9 hrd10
      go_wp2_with fail
      refine (same_any H10.out.2.1 H10.out.2.2).mono ?_
      rintro e w9 ⟨rfl, hf9⟩
      have hb4 := HK.out.1.keep (H10.out.1.trans hf9 (fun _ _ q => q)) (fun q => q)
      have hb5 := HK.out.2.1.keep (H10.out.1.trans hf9 (fun _ _ q => q)) (fun q => q)
      have HC : Hid (∀ w', Fr (fun _ => False) w9 w' → w'.rangeAt w.heap.size 0 (cellsB sa) ∧ w'.rangeAt (w.heap.size + 1) 0 (cellsB sb)) := Lib.hid fun w' f => by
        have q1 := (hb4.keep f (fun q => q)).range 0 128
        have q2 := (hb5.keep f (fun q => q)).range 0 128
        rw [List.drop_zero, List.take_of_length_le (Nat.le_of_eq HL.out.1)] at q1
        rw [List.drop_zero, List.take_of_length_le (Nat.le_of_eq HL.out.2)] at q2
        exact ⟨q1, q2⟩
      have HRT : Hid (∀ w', Fr (fun _ => False) w9 w' → Calls Try.prog 17 #[.slice (some ⟨w.heap.size, 0, none⟩) 64 128] w' fun e w'' => e = .returned (tagV (tagOf sa)) ∧ Fr (fun _ => False) w' w'') := Lib.hid fun w' f => by
        have q := ((bytes_rd (hb4.keep f (fun q => q)) HL.out.1 (by omega)).take (k := 64) (by omega))
        exact rtag_any q (by omega)
      have HTL : Hid ((tornOf sa sb).length = 128) := Lib.hid (by unfold tornOf; rw [List.length_append, List.length_take, List.length_drop, HL.out.1, HL.out.2]; rfl)
      have HF9 := Lib.hid (HK.out.2.2.1.trans (H10.out.1.trans hf9 (fun _ _ q => q)) (fun _ _ q => q))
      clear hf9 hb4 hb5 hneq d0 d1 d2 d3 H10 hconv hconv2
      go_wp2_with fail
      refine wp_region_held_drew (S := fun w' => Fr (fun _ => False) w9 w') (by kernel_rfl) ((Fr.refl _ _).drew) (fun hS0 => ?_)
      refine anyH_take 0 71 (.agg (cellsB sa).toArray) rfl rfl (by kernel_rfl) (by kernel_rfl) (by kernel_rfl) (fun _ _ _ h => h) (yieldsIf_load_mid (by rfl) _ _ rfl _ _ rfl _ _ (fun w' f => (HC.out w' f).1) Try.underlying37 rfl (by rw [infoSector, cellsB_len, HL.out.1])) hS0 ?_
      (simp only [List.setIfInBounds_toArray, List.set_cons_zero, List.set_cons_succ])
      refine anyH_take 2 73 (.slice (some ⟨w.heap.size, 0, none⟩) 64 128) rfl rfl (by kernel_rfl) (by kernel_rfl) (by kernel_rfl) (fun _ _ _ h => h) (.inl ⟨by rfl, fun w'' hS => by go_simp⟩) hS0 ?_
      (simp only [List.setIfInBounds_toArray, List.set_cons_zero, List.set_cons_succ])
      refine anyH_one 1 72 (tagV (tagOf sa)) (by kernel_rfl) (tame_call 72 rfl rfl (by rfl) (fun w'' hS => by go_simp) (fun w'' hS => ((tag_any w'' sa HL.out.1).mono fun e w3 he => ⟨he.1, hS.trans he.2 (fun _ _ q => q)⟩))) hS0 (fun wa hS0 => ?_)
      (simp only [List.setIfInBounds_toArray, List.set_cons_zero, List.set_cons_succ])
      refine anyH_one 3 74 (tagV (tagOf sa)) (by kernel_rfl) (tame_call 74 rfl rfl (by rfl) (fun w'' hS => by go_simp) (fun w'' hS => ((HRT.out w'' hS).mono fun e w3 he => ⟨he.1, hS.trans he.2 (fun _ _ q => q)⟩))) hS0 (fun wb hS0 => ?_)
      (simp only [List.setIfInBounds_toArray, List.set_cons_zero, List.set_cons_succ])
      refine anyH_take 4 75 (.bool true) rfl rfl (by kernel_rfl) (by kernel_rfl) (by kernel_rfl) (fun _ _ _ h => h) (.inl ⟨by rfl, fun w'' hS => by have q0 := tag_eql (tagOf sa).1 ((tagOf sa).2 : Nat) (tagOf sa).1 ((tagOf sa).2 : Nat) w''; (rw [tagEq_iff.2 ⟨rfl, rfl⟩] at q0; go_simp)⟩) hS0 ?_
      (simp only [List.setIfInBounds_toArray, List.set_cons_zero, List.set_cons_succ])
      refine anyH_take 5 76 (.bool true) rfl rfl (by kernel_rfl) (by kernel_rfl) (by kernel_rfl) (fun _ _ _ h => h) (.inl ⟨by rfl, fun w'' hS => by go_simp⟩) hS0 ?_
      (simp only [List.setIfInBounds_toArray, List.set_cons_zero, List.set_cons_succ])
      refine anyH_take 6 77 (.agg (cellsB sa).toArray) rfl rfl (by kernel_rfl) (by kernel_rfl) (by kernel_rfl) (fun _ _ _ h => h) (yieldsIf_load_mid (by rfl) _ _ rfl _ _ rfl _ _ (fun w' f => (HC.out w' f).1) Try.underlying37 rfl (by rw [infoSector, cellsB_len, HL.out.1])) hS0 ?_
      (simp only [List.setIfInBounds_toArray, List.set_cons_zero, List.set_cons_succ])
      refine anyH_take 7 78 (.agg (cellsB sb).toArray) rfl rfl (by kernel_rfl) (by kernel_rfl) (by kernel_rfl) (fun _ _ _ h => h) (yieldsIf_load_mid (by rfl) _ _ rfl _ _ rfl _ _ (fun w' f => (HC.out w' f).2) Try.underlying37 rfl (by rw [infoSector, cellsB_len, HL.out.2])) hS0 ?_
      (simp only [List.setIfInBounds_toArray, List.set_cons_zero, List.set_cons_succ])
      refine anyH_take 9 80 (.agg (cellsB sa).toArray) rfl rfl (by kernel_rfl) (by kernel_rfl) (by kernel_rfl) (fun _ _ _ h => h) (yieldsIf_load_mid (by rfl) _ _ rfl _ _ rfl _ _ (fun w' f => (HC.out w' f).1) Try.underlying37 rfl (by rw [infoSector, cellsB_len, HL.out.1])) hS0 ?_
      (simp only [List.setIfInBounds_toArray, List.set_cons_zero, List.set_cons_succ])
      refine anyH_take 10 81 (.agg (cellsB sb).toArray) rfl rfl (by kernel_rfl) (by kernel_rfl) (by kernel_rfl) (fun _ _ _ h => h) (yieldsIf_load_mid (by rfl) _ _ rfl _ _ rfl _ _ (fun w' f => (HC.out w' f).2) Try.underlying37 rfl (by rw [infoSector, cellsB_len, HL.out.2])) hS0 ?_
      (simp only [List.setIfInBounds_toArray, List.set_cons_zero, List.set_cons_succ])
      refine anyH_one 8 79 (av (tornOf sa sb)) (by kernel_rfl) (tame_call 79 rfl rfl (by rfl) (fun w'' hS => by go_simp) (fun w'' hS => ((torn_any w'' sa sb HL.out.1 HL.out.2).mono fun e w3 he => ⟨he.1, hS.trans he.2 (fun _ _ q => q)⟩))) hS0 (fun wc hS0 => ?_)
      (simp only [List.setIfInBounds_toArray, List.set_cons_zero, List.set_cons_succ])
      refine anyH_one 11 82 (av (tornOf sa sb)) (by kernel_rfl) (tame_call 82 rfl rfl (by rfl) (fun w'' hS => by go_simp) (fun w'' hS => ((rtorn_any w'' sa sb HL.out.1 HL.out.2).mono fun e w3 he => ⟨he.1, hS.trans he.2 (fun _ _ q => q)⟩))) hS0 (fun wd hS0 => ?_)
      (simp only [List.setIfInBounds_toArray, List.set_cons_zero, List.set_cons_succ])
      refine anyH_take 12 83 (.bool true) rfl rfl (by kernel_rfl) (by kernel_rfl) (by kernel_rfl) (fun _ _ _ h => h) (.inl ⟨by rfl, fun w'' hS => by have q0 := sec_same (tornOf sa sb) HTL.out w''; go_simp⟩) hS0 ?_
      (simp only [List.setIfInBounds_toArray, List.set_cons_zero, List.set_cons_succ])
      refine anyH_take 13 84 (.bool true) rfl rfl (by kernel_rfl) (by kernel_rfl) (by kernel_rfl) (fun _ _ _ h => h) (.inl ⟨by rfl, fun w'' hS => by go_simp⟩) hS0 ?_
      (simp only [List.setIfInBounds_toArray, List.set_cons_zero, List.set_cons_succ])
      refine anyH_take 14 85 (.bool true) rfl rfl (by kernel_rfl) (by kernel_rfl) (by kernel_rfl) (fun _ _ _ h => h) (.inl ⟨by rfl, fun w'' hS => by go_simp⟩) hS0 ?_
      (simp only [List.setIfInBounds_toArray, List.set_cons_zero, List.set_cons_succ])
      refine anyH_one 15 86 (.bool true) (by kernel_rfl) (tame_call 86 rfl rfl (by rfl) (fun w'' hS => by go_simp) (fun w'' hS => ((known_any w'').mono fun e w3 he => ⟨he.1, hS.trans he.2 (fun _ _ q => q)⟩))) hS0 (fun we hS0 => ?_)
      (simp only [List.setIfInBounds_toArray, List.set_cons_zero, List.set_cons_succ])
      refine anyH_take 16 87 (.bool true) rfl rfl (by kernel_rfl) (by kernel_rfl) (by kernel_rfl) (fun _ _ _ h => h) (.inl ⟨by rfl, fun w'' hS => by go_simp⟩) hS0 ?_
      (simp only [List.setIfInBounds_toArray, List.set_cons_zero, List.set_cons_succ])
      refine anyH_take 17 6 (.bool true) rfl rfl (by kernel_rfl) (by kernel_rfl) (by kernel_rfl) (fun _ _ _ h => h) (.inl ⟨by rfl, fun w'' hS => by go_simp⟩) hS0 ?_
      (simp only [List.setIfInBounds_toArray, List.set_cons_zero, List.set_cons_succ])
      refine wpAnyH_done (by kernel_rfl) ?_ _
      have HFE := Lib.hid (HF9.out.trans hS0 (fun _ _ q => q))
      clear hS0
      go_wp2_with fail
      go_ret
      exact ⟨rfl, HFE.out⟩
end Go.Proofs.Ytbnegiiombnnaaa
