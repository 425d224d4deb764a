/- The law HalfMeans. -/
import Derived.Test.YtbnegiiombnnaaaMix
namespace Go.Proofs.Ytbnegiiombnnaaa
open Go.RowKit

theorem tagOf_row {x : RowD} (hm : mayT x.c x.n = true) (h3 : x.l.length ≤ 3000) (more : List (List UInt8)) :
    tagAt (secs (rowL x) (nL x) ++ more) = (x.c, x.n.toNat) ∧ joinOf (secs (rowL x) (nL x) ++ more) = some x.l := by
  have hn : x.n = (x.n.toNat : Int) := by
    unfold mayT at hm
    simp at hm
    omega
  exact join_row (c := x.c) (n := x.n.toNat) (b := x.l) (by omega) (by rw [← hn]; exact hm) more

theorem need_row {x : RowD} (h : x.l.length ≤ 3000) : needN (x.l.length : Nat) = nL x := by
  unfold nL
  simp [needN]
  omega

set_option maxRecDepth 100000 in
theorem rows_nil (w : World) (A : Option Addr) (cap : Nat) : Calls Try.prog 20 #[.slice A 0 cap] w fun e w' => e = .returned (.bool true) ∧ w = w' := by
  go_enter Try.func20, Try.ntmps20
  go_wp2_with fail
  go_loop [3, 4] (fun i _ => i = .int .i64 0) (fun _ _ => 0)
  case atStart => rfl
  case round =>
    subst hrel
    go_wp2_with fail
    go_ret
    exact ⟨rfl, rfl⟩
section
variable {ops : Array Oper} {o : Oper} {a : Act} {Q : Exit → Act → World → Prop}
/-- Sectors put behind a row of one's own. -/
theorem wpList_append_secs {rest : List Oper} {w : World} (hg : o.guard = none) (s x : Operand) (hop : o.op = Op.call { callee := Callee.builtin Builtin.append, args := #[s, x], argTypes := #[27, 27] })
    (base : Nat) (v : Value) (N : Nat) (L : List UInt8) (hown : w.ownsRow base 37 128 v N (cellsB L)) {vb : Value} {ss : List (List UInt8)} (h : SecV w vb ss) (hs : a.eval s = v) (hx : a.eval x = vb) (hN : N + ss.length ≤ 1000000) (hbase : base ≤ w.heap.size)
    (hK : ∀ v' w', w'.ownsRow base 37 128 v' (N + ss.length) (cellsB (L ++ ss.flatten)) → w.grownBy w' v.ownBlock → wpList Try.prog ops Q rest (a.put o.dst v') w') : wpList Try.prog ops Q (o :: rest) a w := by
  obtain ⟨i0, hi, hz0, hz1, hz2⟩ := info_parts infoSec
  refine wpList_plain hg fun K hK' => ?_
  have h128 := h.all128
  obtain ⟨A, ca, rfl, hc1, hc2, h3⟩ := h
  rcases Nat.eq_zero_or_pos ss.length with h0 | h0
  · have hnil := List.eq_nil_of_length_eq_zero h0
    subst hnil
    have hk := hK v w (by simpa using hown) (World.grownBy.refl w _)
    have hrun : (Builtin.append_ #[27, 27] o.type #[v, .slice A 0 ca]).run Try.prog w = .ok v w := by
      rcases hown.2 with ⟨rfl, _⟩ | ⟨g, cap, cur, rfl, _, _, hnc, _⟩
      · cases A <;> simp [Builtin.append_, run_underlying Try.underlying27, sizeOf, typeInfo, hi, Builtin.lenOf, Builtin.firstCells, loadCells, loadCellsFrom]
      · cases A <;> simp [Builtin.append_, run_underlying Try.underlying27, sizeOf, typeInfo, hi, Builtin.lenOf, Builtin.firstCells, hnc, storeCells, loadCells, loadCellsFrom]
    have hx' : a.eval x = .slice A 0 ca := hx
    unfold Oper.wp
    simp [execOp, hop, resolve, invoke, builtin, hs, hx', hrun, Result.andThen]
    exact hK' _ _ hk
  · obtain ⟨b, off, rfl, hss⟩ := h3 h0
    have hfl := flat128 h128
    obtain ⟨v', w', hrun, h2, h3, _, _⟩ := run_append_own_at (P := Try.prog) w base 27 o.type 37 i0 (av (nought 128)) 128 128 Try.underlying27 hi hz0 hz1 hz2 (by simp [Value.cells, cellsB_len, nought_len]) (by omega) v N (cellsB L) hown ⟨b, off, none⟩ ss.length ca (cellsB ss.flatten)
      (by rw [cellsB_len, hfl.1]) (fun j u hj => by
        rw [Addr.add_mid]
        exact hss.flat j u hj) (cellsB_one _) (by simp only [maxLen]; omega) (by omega) hbase
    rw [← cellsB_app] at h2
    have hk := hK v' w' h2 h3
    unfold Oper.wp
    simp [execOp, hop, resolve, invoke, builtin, hs, hx, hrun, Result.andThen]
    exact hK' _ _ hk
end

theorem PicksAt.new {w w' : World} {v : Value} {picks : List Int} (h : PicksAt w v picks) (f : Fr (fun _ => False) w w') : PicksAt w' v picks := by
  obtain ⟨A, c, e, h1, h2⟩ := h
  refine ⟨A, c, e, h1, fun q => ?_⟩
  obtain ⟨b, off, e2, h3⟩ := h2 q
  exact ⟨b, off, e2, fun i z hz => ⟨cell_new (h3 i z hz).1 f, (h3 i z hz).2⟩⟩
set_option maxRecDepth 100000 in
set_option maxHeartbeats 8000000 in
theorem means_some {w : World} {b off : Nat} {xs : List RowD} {cap : Nat} (h : RowsAt w b off xs) (hl : xs.length ≤ maxLen) {vp : Value} {picks : List Int} (hp : PicksAt w vp picks) {vb : Value} {bs : List (List UInt8)} (hb : SecV w vb bs) :
    Calls Try.prog 5 #[.slice (some ⟨b, off, none⟩) xs.length cap, vp, vb] w fun e w' => e = .returned (.bool true) ∧ Fr (fun _ => False) w w' := by
  have HR := Lib.hid (rows_full (cap := cap) h hl)
  have H := Lib.hid h
  have HP := Lib.hid hp
  have hl' : xs.length ≤ 9223372036854775807 := by simp only [maxLen] at hl; omega
  obtain ⟨Ap, cp, hvp, hp1, hp2⟩ := hp
  subst hvp
  obtain ⟨np, hnp⟩ : ∃ np, np = picks.length := ⟨_, rfl⟩
  rw [← hnp] at hp1 HP ⊢
  have hnp9 : np ≤ 9223372036854775807 := by simp only [maxLen] at hp1; omega
  have HP2 := Lib.hid hp2
  have HNP := Lib.hid hnp
  have HSB := Lib.hid hb
  obtain ⟨Ab, cb, hvb, hb1, hb2, _⟩ := hb
  subst hvb
  obtain ⟨nb, hnb⟩ : ∃ nb, nb = bs.length := ⟨_, rfl⟩
  rw [← hnb] at hb1 HSB ⊢
  have hnb9 : nb ≤ 9223372036854775807 := by simp only [maxLen] at hb2; omega
  have HNB := Lib.hid hnb
  clear h hl hp1 hp2 hnp hb1 hb2 hnb
  go_enter Try.func5, Try.ntmps5
  go_wp2_with fail
  (with_reducible refine HR.out.mono ?_)
  rintro e w1 ⟨β, rfl, hf1, hβ⟩
  have HF1 := Lib.hid hf1
  clear hf1 HR
  cases β with
  | false =>
    clear hβ
    go_wp2_with fail
    refine (known_any _).mono ?_
    rintro e w2 ⟨rfl, hf2⟩
    have HF2 := Lib.hid (HF1.out.trans hf2 (fun _ _ q => q))
    clear hf2
    go_wp2_with fail
    go_ret
    exact ⟨rfl, HF2.out⟩
  | true =>
    obtain ⟨h5, hx, hdist⟩ := hβ rfl
    have hap : Apart5 xs := ⟨fun x hm => (hx x hm).1, fun x hm => by
      obtain ⟨i, hi⟩ := List.getElem?_of_mem hm
      have := ((H.out i x hi).1).rd.len
      have := (hx x hm).2
      omega, fun i j x y hi hj hc hn => hdist i j x y (List.getElem?_eq_some_iff.1 hi).1 (List.getElem?_eq_some_iff.1 hj).1 hi hj hc hn⟩
    have HX := Lib.hid hx
    have HAP := Lib.hid hap
    have H5 := Lib.hid h5
    clear hβ hx hdist hap h5
    by_cases hbig : 20 < nb
    · have hd : decide ((20 : Int) < (nb : Int)) = true := by rw [decide_eq_true_eq]; omega
      clear hbig
      go_wp2_with fail
      refine (known_any _).mono ?_
      rintro e w2 ⟨rfl, hf2⟩
      have HF2 := Lib.hid (HF1.out.trans hf2 (fun _ _ q => q))
      clear hf2
      go_wp2_with fail
      go_ret
      exact ⟨rfl, HF2.out⟩
    have hd : decide ((20 : Int) < (nb : Int)) = false := by rw [decide_eq_false_iff_not]; omega
    have hnb20 : nb ≤ 20 := by omega
    clear hbig hnb9
    go_wp2_with fail
    go_loopw [7, 8, 9, 10, 11, 12, 13] (fun i _ _ _ _ _ _ wr => ∃ k : Nat, i = .int .i64 k ∧ k ≤ xs.length ∧ Hid (Fr (fun _ => False) w wr)) (fun i _ _ _ _ _ _ _ => xs.length - (intOf i).toNat)
    case atStart => exact ⟨0, rfl, Nat.zero_le _, HF1⟩
    case round =>
      obtain ⟨k, rfl, hk, HF⟩ := hrel
      by_cases hlt : k < xs.length
      · obtain ⟨hok, h0, h1, h2⟩ := (H.out.new HF.out) k xs[k] (List.getElem?_eq_getElem hlt)
        have HM := Lib.hid (HX.out _ (List.getElem_mem hlt))
        generalize xs[k] = x at *
        have hi0 : (0 : Int) ≤ (k : Int) := Int.natCast_nonneg _
        have hi1 : (k : Int) < (xs.length : Int) := by omega
        have HSP := Lib.hid (split_row (w := wr.drew) ⟨hok.c, hok.n1, hok.n2, hok.rd, hok.mc, hok.km⟩ HM.out.1 HM.out.2)
        have HOK := Lib.hid hok
        have HCL := Lib.hid (And.intro h0 (And.intro h1 h2))
        clear hok
        go_wp2_with fail
        go_region_held3 (fun w' => w'.cell? ⟨b, off + k * 3, none⟩ = some (.int .u64 x.c) ∧ w'.cell? ⟨b, off + k * 3 + 1, none⟩ = some (.int .i64 x.n) ∧ w'.cell? ⟨b, off + k * 3 + 2, none⟩ = some (.slice x.A x.m x.k))
          (first | go_keep | (exact ⟨cell_new h0 hf3, cell_new h1 hf3, cell_new h2 hf3⟩))
          ((go_at_call 7; refine HSP.out.mono ?_; rintro e w2 ⟨R, rfl, hR, hbk, hf2⟩; have hf3 := ((Fr.refl (fun _ => False) wr).drew).trans hf2 (fun _ _ q => q)))
        have hx3 : x.l.length ≤ 3000 := by
          have := HOK.out.rd.len
          have := HM.out.2
          omega
        have hnl := nL_le hx3
        have H2 := Lib.hid (And.intro hbk (And.intro (HF.out.trans hf3 (fun _ _ q => q)) (And.intro (HSB.out.new (HF.out.trans hf3 (fun _ _ q => q))) hf3)))
        have HX3 := Lib.hid hx3
        have hnd := need_row hx3
        have HND := Lib.hid hnd
        clear h0 h1 h2 hR hbk hf2 hf3 HSP hx3 hnd
        generalize hnx : nL x = nx at *
        have HNX := Lib.hid hnx
        clear hnx
        go_wp2_with (first
          | (refine wpList_append_row rfl (.const (.slice none 0 0)) (.tmp 51) rfl w2.heap.size (.slice none 0 0) 0 [] (rowL x) (World.ownsRow_nil _ _ _ _) H2.out.1 (by rw [rowL_len, HNX.out]) rfl rfl (by omega) (Nat.le_refl _) ?_; intro v4 w4 ho4 hg4; rw [Nat.zero_add, List.nil_append] at ho4; have H4 := Lib.hid (And.intro ho4 ((Fr.refl (fun _ => False) w2).grown hg4 (fun j hj => by cases hj))); clear ho4 hg4)
          | (refine wpList_append_secs rfl (.tmp 52) (.tmp 53) rfl w2.heap.size v4 nx (rowL x) H4.out.1 (H2.out.2.2.1.new H4.out.2) rfl rfl (by have := HNB.out; omega) H4.out.2.size ?_; intro v5 w5 ho5 hg5; have H5' := Lib.hid (And.intro ho5 (H4.out.2.grown hg5 (fun j hj => .inr (H4.out.1.lt j hj).1))); clear ho5 hg5))
        have h5o := H5'.out.1
        have h5f := H5'.out.2
        have hfl := flat128 HSB.out.all128
        have hrl : (rowL x ++ bs.flatten).length = (nx + bs.length) * 128 := by rw [List.length_append, rowL_len, HNX.out, hfl.1, Nat.add_mul]
        have hsv := secV_own1 h5o hrl
        rw [secs_app (a := nx) (by rw [rowL_len, HNX.out]), hfl.2] at hsv
        have hjr := tagOf_row HM.out.1 HX3.out bs
        rw [HNX.out] at hjr
        have HJ := Lib.hid (join_any hsv.in_ (by rw [List.length_append, secs_len, ← HNB.out]; omega))
        have HJR := Lib.hid hjr
        have hmn := may_nat HM.out.1
        have HMN := Lib.hid hmn.1
        have H5 := Lib.hid (And.intro (H2.out.2.1.trans h5f (fun _ _ q => q)) (H2.out.2.2.2.trans h5f (fun _ _ q => q)))
        obtain ⟨A5, c5, hv5, _, _⟩ := hsv
        subst hv5
        clear h5o h5f hfl hrl hjr hmn H5'
        go_wp2_with fail
        (with_reducible refine HJ.out.mono ?_)
        rintro e w6 ⟨_, j2, hf6⟩
        obtain ⟨A', rfl, hrA⟩ := j2 _ HJR.out.2
        rw [HJR.out.1, HND.out]
        simp only [HMN.out]
        have hb10 := Blk.new w6 24 #[.int .u64 x.c, .int .i64 x.n]
        have hfa : Fr (fun _ => False) w6 (w6.alloc (.cells #[.int .u64 x.c, .int .i64 x.n] 24)) := (Fr.refl _ w6).alloc _
        have hrA2 := hrA.keep hfa (fun _ _ q => q)
        have hfw := H5.out.2.trans (hf6.trans hfa (fun _ _ q => q)) (fun _ _ q => q)
        have H7 := Lib.hid (H5.out.1.trans (hf6.trans hfa (fun _ _ q => q)) (fun _ _ q => q))
        go_upto_region 8 with fail
        generalize (w6.alloc (.cells #[.int .u64 x.c, .int .i64 x.n] 24)) = w7 at *
        have HC : Hid (∀ w', Fr (fun _ => False) w7 w' → w'.cell? ⟨w6.heap.size, 0, none⟩ = some (.int .u64 x.c) ∧ w'.cell? ⟨w6.heap.size, 1, none⟩ = some (.int .i64 x.n) ∧ w'.cell? ⟨b, off + k * 3, none⟩ = some (.int .u64 x.c) ∧ w'.cell? ⟨b, off + k * 3 + 1, none⟩ = some (.int .i64 x.n) ∧ w'.cell? ⟨b, off + k * 3 + 2, none⟩ = some (.slice x.A x.m x.k) ∧
            (convert 25 9 (.slice A' x.l.length x.l.length)).run Try.prog w' = .ok (.string ⟨x.l.toArray⟩) w' ∧ (convert 25 9 (.slice x.A x.m x.k)).run Try.prog w' = .ok (.string ⟨x.l.toArray⟩) w') := Lib.hid fun w' f => by
          have q8 := hb10.keep f (fun q => q)
          have f2 := hfw.trans f (fun _ _ q => q)
          exact ⟨q8.cell 0, q8.cell 1, cell_new HCL.out.1 f2, cell_new HCL.out.2.1 f2, cell_new HCL.out.2.2 f2, conv_string (P := Try.prog) 25 9 5 (hrA2.keep f (fun _ _ q => q)) Try.underlying25 Try.underlying5 Try.underlying9,
            conv_string (P := Try.prog) 25 9 5 (HOK.out.rd.keep f2 (fun _ _ q => q)) Try.underlying25 Try.underlying5 Try.underlying9⟩
        clear hb10 hfa hrA hrA2 hfw hf6 j2
        refine wp_region_held_drew (S := fun w' => Fr (fun _ => False) w7 w') (by kernel_rfl) ((Fr.refl _ _).drew) (fun hS0 => ?_)
        refine anyH_take 0 60 (.int .i64 0) rfl rfl (by kernel_rfl) (by kernel_rfl) (by kernel_rfl) (fun _ _ _ h => h) (.inl ⟨by rfl, fun w'' hS => by go_simp⟩) hS0 ?_
        (simp only [List.setIfInBounds_toArray, List.set_cons_zero, List.set_cons_succ])
        refine anyH_take 1 61 (.bool false) rfl rfl (by kernel_rfl) (by kernel_rfl) (by kernel_rfl) (fun _ _ _ h => h) (.inl ⟨by rfl, fun w'' hS => by go_simp⟩) hS0 ?_
        (simp only [List.setIfInBounds_toArray, List.set_cons_zero, List.set_cons_succ])
        refine anyH_take 2 62 (.bool false) rfl rfl (by kernel_rfl) (by kernel_rfl) (by kernel_rfl) (fun _ _ _ h => h) (.inl ⟨by rfl, fun w'' hS => by go_simp⟩) hS0 ?_
        (simp only [List.setIfInBounds_toArray, List.set_cons_zero, List.set_cons_succ])
        refine anyH_take 3 63 (.int .i64 0) rfl rfl (by kernel_rfl) (by kernel_rfl) (by kernel_rfl) (fun _ _ _ h => h) (.inl ⟨by rfl, fun w'' hS => by go_simp⟩) hS0 ?_
        (simp only [List.setIfInBounds_toArray, List.set_cons_zero, List.set_cons_succ])
        refine anyH_take 4 64 (.bool false) rfl rfl (by kernel_rfl) (by kernel_rfl) (by kernel_rfl) (fun _ _ _ h => h) (.inl ⟨by rfl, fun w'' hS => by go_simp⟩) hS0 ?_
        (simp only [List.setIfInBounds_toArray, List.set_cons_zero, List.set_cons_succ])
        refine anyH_take 5 65 (.bool false) rfl rfl (by kernel_rfl) (by kernel_rfl) (by kernel_rfl) (fun _ _ _ h => h) (.inl ⟨by rfl, fun w'' hS => by go_simp⟩) hS0 ?_
        (simp only [List.setIfInBounds_toArray, List.set_cons_zero, List.set_cons_succ])
        refine anyH_take 6 66 (.bool false) rfl rfl (by kernel_rfl) (by kernel_rfl) (by kernel_rfl) (fun _ _ _ h => h) (.inl ⟨by rfl, fun w'' hS => by go_simp⟩) hS0 ?_
        (simp only [List.setIfInBounds_toArray, List.set_cons_zero, List.set_cons_succ])
        refine anyH_take 7 67 (.agg #[.int .u64 x.c, .int .i64 x.n]) rfl rfl (by kernel_rfl) (by kernel_rfl) (by kernel_rfl) (fun _ _ _ h => h) (.inl ⟨by rfl, fun w'' hS => by have q0 := (HC.out w'' hS).1; have q1 := (HC.out w'' hS).2.1; go_simp⟩) hS0 ?_
        (simp only [List.setIfInBounds_toArray, List.set_cons_zero, List.set_cons_succ])
        refine anyH_take 8 68 (.slice (some ⟨b, off, none⟩) xs.length cap) rfl rfl (by kernel_rfl) (by kernel_rfl) (by kernel_rfl) (fun _ _ _ h => h) (.inl ⟨by rfl, fun w'' hS => by go_simp⟩) hS0 ?_
        (simp only [List.setIfInBounds_toArray, List.set_cons_zero, List.set_cons_succ])
        refine anyH_take 9 69 (.int .i64 (k : Nat)) rfl rfl (by kernel_rfl) (by kernel_rfl) (by kernel_rfl) (fun _ _ _ h => h) (.inl ⟨by rfl, fun w'' hS => by go_simp⟩) hS0 ?_
        (simp only [List.setIfInBounds_toArray, List.set_cons_zero, List.set_cons_succ])
        refine anyH_take 10 70 (.pointer (some ⟨b, off + k * 3, none⟩)) rfl rfl (by kernel_rfl) (by kernel_rfl) (by kernel_rfl) (fun _ _ _ h => h) (.inl ⟨by rfl, fun w'' hS => by go_simp⟩) hS0 ?_
        (simp only [List.setIfInBounds_toArray, List.set_cons_zero, List.set_cons_succ])
        refine anyH_take 11 71 (.pointer (some ⟨b, off + k * 3, none⟩)) rfl rfl (by kernel_rfl) (by kernel_rfl) (by kernel_rfl) (fun _ _ _ h => h) (.inl ⟨by rfl, fun w'' hS => by go_simp⟩) hS0 ?_
        (simp only [List.setIfInBounds_toArray, List.set_cons_zero, List.set_cons_succ])
        refine anyH_take 12 72 (.agg #[.int .u64 x.c, .int .i64 x.n]) rfl rfl (by kernel_rfl) (by kernel_rfl) (by kernel_rfl) (fun _ _ _ h => h) (.inl ⟨by rfl, fun w'' hS => by have q0 := (HC.out w'' hS).2.2.1; have q1 := (HC.out w'' hS).2.2.2.1; go_simp⟩) hS0 ?_
        (simp only [List.setIfInBounds_toArray, List.set_cons_zero, List.set_cons_succ])
        refine anyH_take 13 73 (.bool false) rfl rfl (by kernel_rfl) (by kernel_rfl) (by kernel_rfl) (fun _ _ _ h => h) (.inl ⟨by rfl, fun w'' hS => by have q0 := tag_neq x.c x.n x.c x.n w''; (rw [tagEq_iff.2 ⟨rfl, rfl⟩] at q0; go_simp)⟩) hS0 ?_
        (simp only [List.setIfInBounds_toArray, List.set_cons_zero, List.set_cons_succ])
        refine anyH_take 14 74 (.bool false) rfl rfl (by kernel_rfl) (by kernel_rfl) (by kernel_rfl) (fun _ _ _ h => h) (.inl ⟨by rfl, fun w'' hS => by go_simp⟩) hS0 ?_
        (simp only [List.setIfInBounds_toArray, List.set_cons_zero, List.set_cons_succ])
        refine anyH_take 15 75 (.bool false) rfl rfl (by kernel_rfl) (by kernel_rfl) (by kernel_rfl) (fun _ _ _ h => h) (.inl ⟨by rfl, fun w'' hS => by go_simp⟩) hS0 ?_
        (simp only [List.setIfInBounds_toArray, List.set_cons_zero, List.set_cons_succ])
        refine anyH_take 16 76 (.slice A' x.l.length x.l.length) rfl rfl (by kernel_rfl) (by kernel_rfl) (by kernel_rfl) (fun _ _ _ h => h) (.inl ⟨by rfl, fun w'' hS => by go_simp⟩) hS0 ?_
        (simp only [List.setIfInBounds_toArray, List.set_cons_zero, List.set_cons_succ])
        refine anyH_take 17 77 (.string ⟨x.l.toArray⟩) rfl rfl (by kernel_rfl) (by kernel_rfl) (by kernel_rfl) (fun _ _ _ h => h) (.inl ⟨by rfl, fun w'' hS => by have q0 := (HC.out w'' hS).2.2.2.2.2.1; go_simp⟩) hS0 ?_
        (simp only [List.setIfInBounds_toArray, List.set_cons_zero, List.set_cons_succ])
        refine anyH_take 18 78 (.slice (some ⟨b, off, none⟩) xs.length cap) rfl rfl (by kernel_rfl) (by kernel_rfl) (by kernel_rfl) (fun _ _ _ h => h) (.inl ⟨by rfl, fun w'' hS => by go_simp⟩) hS0 ?_
        (simp only [List.setIfInBounds_toArray, List.set_cons_zero, List.set_cons_succ])
        refine anyH_take 19 79 (.int .i64 (k : Nat)) rfl rfl (by kernel_rfl) (by kernel_rfl) (by kernel_rfl) (fun _ _ _ h => h) (.inl ⟨by rfl, fun w'' hS => by go_simp⟩) hS0 ?_
        (simp only [List.setIfInBounds_toArray, List.set_cons_zero, List.set_cons_succ])
        refine anyH_take 20 80 (.pointer (some ⟨b, off + k * 3, none⟩)) rfl rfl (by kernel_rfl) (by kernel_rfl) (by kernel_rfl) (fun _ _ _ h => h) (.inl ⟨by rfl, fun w'' hS => by go_simp⟩) hS0 ?_
        (simp only [List.setIfInBounds_toArray, List.set_cons_zero, List.set_cons_succ])
        refine anyH_take 21 81 (.pointer (some ⟨b, off + k * 3 + 2, none⟩)) rfl rfl (by kernel_rfl) (by kernel_rfl) (by kernel_rfl) (fun _ _ _ h => h) (.inl ⟨by rfl, fun w'' hS => by go_simp⟩) hS0 ?_
        (simp only [List.setIfInBounds_toArray, List.set_cons_zero, List.set_cons_succ])
        refine anyH_take 22 82 (.slice x.A x.m x.k) rfl rfl (by kernel_rfl) (by kernel_rfl) (by kernel_rfl) (fun _ _ _ h => h) (.inl ⟨by rfl, fun w'' hS => by have q0 := (HC.out w'' hS).2.2.2.2.1; go_simp⟩) hS0 ?_
        (simp only [List.setIfInBounds_toArray, List.set_cons_zero, List.set_cons_succ])
        refine anyH_take 23 83 (.string ⟨x.l.toArray⟩) rfl rfl (by kernel_rfl) (by kernel_rfl) (by kernel_rfl) (fun _ _ _ h => h) (.inl ⟨by rfl, fun w'' hS => by have q0 := (HC.out w'' hS).2.2.2.2.2.2; go_simp⟩) hS0 ?_
        (simp only [List.setIfInBounds_toArray, List.set_cons_zero, List.set_cons_succ])
        refine anyH_take 24 84 (.bool false) rfl rfl (by kernel_rfl) (by kernel_rfl) (by kernel_rfl) (fun _ _ _ h => h) (.inl ⟨by rfl, fun w'' hS => by go_simp⟩) hS0 ?_
        (simp only [List.setIfInBounds_toArray, List.set_cons_zero, List.set_cons_succ])
        refine anyH_take 25 85 (.bool false) rfl rfl (by kernel_rfl) (by kernel_rfl) (by kernel_rfl) (fun _ _ _ h => h) (.inl ⟨by rfl, fun w'' hS => by go_simp⟩) hS0 ?_
        (simp only [List.setIfInBounds_toArray, List.set_cons_zero, List.set_cons_succ])
        refine anyH_take 26 86 (.bool false) rfl rfl (by kernel_rfl) (by kernel_rfl) (by kernel_rfl) (fun _ _ _ h => h) (.inl ⟨by rfl, fun w'' hS => by go_simp⟩) hS0 ?_
        (simp only [List.setIfInBounds_toArray, List.set_cons_zero, List.set_cons_succ])
        refine anyH_take 27 87 (.int .i64 (nx : Nat)) rfl rfl (by kernel_rfl) (by kernel_rfl) (by kernel_rfl) (fun _ _ _ h => h) (.inl ⟨by rfl, fun w'' hS => by go_simp⟩) hS0 ?_
        (simp only [List.setIfInBounds_toArray, List.set_cons_zero, List.set_cons_succ])
        refine anyH_take 28 88 (.slice (some ⟨R, 0, none⟩) nx nx) rfl rfl (by kernel_rfl) (by kernel_rfl) (by kernel_rfl) (fun _ _ _ h => h) (.inl ⟨by rfl, fun w'' hS => by go_simp⟩) hS0 ?_
        (simp only [List.setIfInBounds_toArray, List.set_cons_zero, List.set_cons_succ])
        refine anyH_take 29 89 (.int .i64 (nx : Nat)) rfl rfl (by kernel_rfl) (by kernel_rfl) (by kernel_rfl) (fun _ _ _ h => h) (.inl ⟨by rfl, fun w'' hS => by go_simp⟩) hS0 ?_
        (simp only [List.setIfInBounds_toArray, List.set_cons_zero, List.set_cons_succ])
        refine anyH_take 30 90 (.bool false) rfl rfl (by kernel_rfl) (by kernel_rfl) (by kernel_rfl) (fun _ _ _ h => h) (.inl ⟨by rfl, fun w'' hS => by go_simp⟩) hS0 ?_
        (simp only [List.setIfInBounds_toArray, List.set_cons_zero, List.set_cons_succ])
        refine anyH_take 31 91 (.bool false) rfl rfl (by kernel_rfl) (by kernel_rfl) (by kernel_rfl) (fun _ _ _ h => h) (.inl ⟨by rfl, fun w'' hS => by go_simp⟩) hS0 ?_
        (simp only [List.setIfInBounds_toArray, List.set_cons_zero, List.set_cons_succ])
        refine wpAnyH_done (by kernel_rfl) ?_ _
        have HF8 := Lib.hid (H7.out.trans hS0 (fun _ _ q => q))
        clear hS0
        go_wp2_with fail
        exact ⟨⟨k + 1, by go_num, by omega, HF8⟩, by simp [intOf]; omega⟩
      · obtain rfl : k = xs.length := by omega
        have HMX := Lib.hid (mixed_some (cap := cap) (H.out.new HF.out) H5.out HAP.out (HP.out.new HF.out))
        clear hlt hk
        go_wp2_with fail
        (with_reducible refine HMX.out.mono ?_)
        rintro e w3 ⟨v3, rfl, hs3, hf3⟩
        have hmo := mostOf_le HAP.out.few
        have HJ := Lib.hid (join_any hs3.in_ (by rw [sectorsL_len, mixL_len]; omega))
        have hjj := fun bb => @mixed_join xs picks HAP.out bb
        generalize sectorsL (mixL xs picks) = ss at *
        obtain ⟨t, ht⟩ : ∃ t, t = tagAt ss := ⟨_, rfl⟩
        obtain ⟨o, ho⟩ : ∃ o, o = joinOf ss := ⟨_, rfl⟩
        rw [← ht, ← ho] at HJ hjj
        have HJJ := Lib.hid hjj
        have HF3 := Lib.hid (HF.out.trans hf3 (fun _ _ q => q))
        obtain ⟨A3, c3, hv3, _, _⟩ := hs3
        subst hv3
        clear hf3 hmo hjj ht ho HMX
        go_wp2_with fail
        (with_reducible refine HJ.out.mono ?_)
        rintro e w4 ⟨j1, j2, hf4⟩
        have HF4 := Lib.hid (HF3.out.trans hf4 (fun _ _ q => q))
        clear hf4 HJ
        cases o with
        | none =>
          obtain rfl := j1 rfl
          clear j1 j2
          have hf5 : Fr (fun _ => False) w (w4.alloc (.cells #[.int .u64 0, .int .i64 0] 24)) := HF4.out.alloc _
          have HF5 := Lib.hid hf5
          clear hf5
          go_wp2_with fail
          refine (known_any _).mono ?_
          rintro e w6 ⟨rfl, hf6⟩
          have HF6 := Lib.hid (HF5.out.trans hf6 (fun _ _ q => q))
          clear hf6
          go_wp2_with fail
          go_ret
          exact ⟨rfl, HF6.out⟩
        | some bb =>
          obtain ⟨A', rfl, hrA⟩ := j2 bb rfl
          obtain ⟨j, x, hxj, htx, hbx, hpk⟩ := HJJ.out bb rfl
          subst htx hbx
          have hmn := may_nat (HX.out x (List.mem_of_getElem? hxj)).1
          simp only [hmn.1]
          have hfa : Fr (fun _ => False) w4 (w4.alloc (.cells #[.int .u64 x.c, .int .i64 x.n] 24)) := (Fr.refl _ w4).alloc _
          have hb14 := Blk.new w4 24 #[.int .u64 x.c, .int .i64 x.n]
          have hrA2 := hrA.keep hfa (fun _ _ q => q)
          have hf5 := HF4.out.trans hfa (fun _ _ q => q)
          have HXJ := Lib.hid (And.intro hxj hpk)
          have hjl : j < xs.length := (List.getElem?_eq_some_iff.1 hxj).1
          have HMN := Lib.hid hmn
          clear j1 j2 hxj hpk hmn
          go_upto_region 13 with fail
          generalize (w4.alloc (.cells #[.int .u64 x.c, .int .i64 x.n] 24)) = w5 at *
          have HB := Lib.hid (And.intro hb14 (And.intro hrA2 hf5))
          clear hfa hb14 hrA hrA2 hf5
          go_wp2_with fail
          go_loopw [18] (fun s wr => ∃ i : Nat, s = .int .i64 i ∧ i ≤ j ∧ Hid (Fr (fun _ => False) w5 wr)) (fun s _ => xs.length - (intOf s).toNat)
          case atStart => exact ⟨0, rfl, Nat.zero_le _, Lib.hid (Fr.refl _ _)⟩
          case round =>
            obtain ⟨i, rfl, hi, HFi⟩ := hrel
            have hi0 : (0 : Int) ≤ (i : Int) := by omega
            have hi1 : (i : Int) < (xs.length : Int) := by omega
            have hd0 := (HB.out.1.keep HFi.out (fun q => q)).cell 0
            have hd1 := (HB.out.1.keep HFi.out (fun q => q)).cell 1
            simp at hd0 hd1
            by_cases hij : i < j
            · obtain ⟨y, hy⟩ : ∃ y, xs[i]? = some y := ⟨_, List.getElem?_eq_getElem (by omega)⟩
              obtain ⟨_, y0, y1, _⟩ := (H.out.new (HB.out.2.2.trans HFi.out (fun _ _ q => q))) i y hy
              have hte : tagEq y.c y.n x.c x.n = false := by
                cases he : tagEq y.c y.n x.c x.n with
                | false => rfl
                | true =>
                  have := tagEq_iff.1 he
                  have := HAP.out.tags i j y x hy HXJ.out.1 this.1 this.2
                  omega
              have hneq : ∀ w, (binOp .neq 24 (.agg #[.int .u64 y.c, .int .i64 y.n]) (.agg #[.int .u64 x.c, .int .i64 x.n])).run Try.prog w = .ok (.bool true) w := fun w => by
                have := tag_neq y.c y.n x.c x.n w
                rw [hte] at this
                exact this
              have HIJ := Lib.hid hij
              clear hy hte hij hi
              go_wp2_with fail
              go_region_held3 (fun w' => w'.cell? ⟨b, off + i * 3, none⟩ = some (.int .u64 y.c) ∧ w'.cell? ⟨b, off + i * 3 + 1, none⟩ = some (.int .i64 y.n) ∧ w'.cell? ⟨w4.heap.size, 0, none⟩ = some (.int .u64 x.c) ∧ w'.cell? ⟨w4.heap.size, 1, none⟩ = some (.int .i64 x.n)) (go_keep) (fail)
              clear hneq y0 y1 hd0 hd1
              go_wp2_with fail
              exact ⟨⟨i + 1, by go_num, HIJ.out, Lib.hid HFi.out.drew⟩, by simp [intOf]; omega⟩
            · obtain rfl : i = j := by omega
              obtain ⟨hok, y0, y1, y2⟩ := (H.out.new (HB.out.2.2.trans HFi.out (fun _ _ q => q))) i x HXJ.out.1
              have hneq : ∀ w, (binOp .neq 24 (.agg #[.int .u64 x.c, .int .i64 x.n]) (.agg #[.int .u64 x.c, .int .i64 x.n])).run Try.prog w = .ok (.bool false) w := fun w => by
                have := tag_neq x.c x.n x.c x.n w
                rw [tagEq_iff.2 ⟨rfl, rfl⟩] at this
                exact this
              clear hij hi
              go_wp2_with fail
              go_region_held3 (fun w' => w'.cell? ⟨b, off + i * 3, none⟩ = some (.int .u64 x.c) ∧ w'.cell? ⟨b, off + i * 3 + 1, none⟩ = some (.int .i64 x.n) ∧ w'.cell? ⟨w4.heap.size, 0, none⟩ = some (.int .u64 x.c) ∧ w'.cell? ⟨w4.heap.size, 1, none⟩ = some (.int .i64 x.n)) (go_keep) (fail)
              clear hneq
              have hxm := HX.out x (List.mem_of_getElem? HXJ.out.1)
              have hrl := hok.rd.len
              have hmn := HMN.out
              have HRH := Lib.hid fun W (f : Fr (fun _ => False) wr W) => rhalves_any (cb := x.k) (hok.rd.keep f (fun _ _ q => q)) (by omega) x.c x.n.toNat (by omega) (by omega)
              rw [hmn.1] at HRH
              have HOK := Lib.hid hok
              have hmz : many x.l.length ≤ 100 := by unfold many; omega
              have hxl : x.l.length ≤ 3000 := by omega
              clear hok hxm hrl hmn
              go_wp2_with fail
              go_region_held3 (fun w' => w'.cell? ⟨w4.heap.size, 0, none⟩ = some (.int .u64 x.c) ∧ w'.cell? ⟨w4.heap.size, 1, none⟩ = some (.int .i64 x.n) ∧ w'.cell? ⟨b, off + i * 3 + 2, none⟩ = some (.slice x.A x.m x.k))
                (first | go_keep | (exact ⟨cell_new hd0 hf12, cell_new hd1 hf12, cell_new y2 hf12⟩))
                ((go_at_call 22; refine (HRH.out _ (((Fr.refl _ _).drew).drew)).mono ?_; rintro e w12 ⟨v12, rfl, hl12, hf12'⟩; have hf12 := (((Fr.refl (fun _ => False) wr).drew).drew).trans hf12' (fun _ _ q => q); obtain ⟨A12, c12, hv12, _, _⟩ := hl12.form; rw [halvesL_len] at hv12; subst hv12))
              have HF12 := Lib.hid (HFi.out.trans hf12 (fun _ _ q => q))
              clear hl12 hf12 hf12' HRH y0 y1 y2 hd0 hd1 HFi
              obtain ⟨mz, hmy⟩ : ∃ mz, mz = many x.l.length := ⟨_, rfl⟩
              rw [← hmy] at hmz ⊢
              have HMZ := Lib.hid hmy
              clear hmy
              go_wp2_with fail
              go_loopw [20] (fun s wr => ∃ k : Nat, s = .int .i64 k ∧ k ≤ mz ∧ Hid (Fr (fun _ => False) w5 wr)) (fun s _ => mz - (intOf s).toNat)
              case atStart => exact ⟨0, rfl, Nat.zero_le _, HF12⟩
              case round =>
                obtain ⟨k, rfl, hk, HFk⟩ := hrel
                by_cases hkm : k < mz
                · obtain ⟨hk1, hk2⟩ := HXJ.out.2 k (by rw [← HMZ.out]; exact hkm)
                  obtain ⟨pb, po, hAp, hpc⟩ := HP2.out (by omega)
                  subst hAp
                  obtain ⟨z, hz⟩ : ∃ z, picks[k]? = some z := ⟨_, List.getElem?_eq_getElem hk1⟩
                  have hpk : z = (i : Int) + 1 := by unfold pickAt at hk2; rw [hz] at hk2; exact hk2
                  obtain ⟨hc0, _, _⟩ := hpc k z hz
                  rw [hpk] at hc0
                  have hck := cell_new hc0 (HB.out.2.2.trans HFk.out (fun _ _ q => q))
                  have hk3 : (k : Int) < (np : Int) := by have := HNP.out; omega
                  have hk4 : ¬ (np : Int) ≤ (k : Int) := by omega
                  have hk0 : (0 : Int) ≤ (k : Int) := by omega
                  clear hk1 hk2 hpc hz hpk hc0
                  go_wp2_with fail
                  exact ⟨⟨k + 1, by go_num, by omega, HFk⟩, by simp [intOf]; omega⟩
                · obtain rfl : k = mz := by omega
                  have hf13 := HFk.out
                  have HC : Hid (∀ w', Fr (fun _ => False) wr w' → w'.cell? ⟨b, off + i * 3 + 2, none⟩ = some (.slice x.A x.m x.k) ∧ (convert 25 9 (.slice A' x.l.length x.l.length)).run Try.prog w' = .ok (.string ⟨x.l.toArray⟩) w' ∧ (convert 25 9 (.slice x.A x.m x.k)).run Try.prog w' = .ok (.string ⟨x.l.toArray⟩) w') := Lib.hid fun w' f => by
                    have f2 := HB.out.2.2.trans (hf13.trans f (fun _ _ q => q)) (fun _ _ q => q)
                    obtain ⟨ok2, _, _, z2⟩ := (H.out.new f2) i x HXJ.out.1
                    exact ⟨z2, conv_string (P := Try.prog) 25 9 5 (HB.out.2.1.keep (hf13.trans f (fun _ _ q => q)) (fun _ _ q => q)) Try.underlying25 Try.underlying5 Try.underlying9,
                      conv_string (P := Try.prog) 25 9 5 ok2.rd Try.underlying25 Try.underlying5 Try.underlying9⟩
                  have HF13 := Lib.hid (HB.out.2.2.trans hf13 (fun _ _ q => q))
                  clear hf13 hkm hk HFk
                  generalize wr = w13 at *
                  go_wp2_with fail
                  refine wp_region_held_drew (S := fun w' => Fr (fun _ => False) w13 w') (by kernel_rfl) ((Fr.refl _ _).drew) (fun hS0 => ?_)
                  refine anyH_take 0 147 (.slice A' x.l.length x.l.length) rfl rfl (by kernel_rfl) (by kernel_rfl) (by kernel_rfl) (fun _ _ _ h => h) (.inl ⟨by rfl, fun w'' hS => by go_simp⟩) hS0 ?_
                  (simp only [List.setIfInBounds_toArray, List.set_cons_zero, List.set_cons_succ])
                  refine anyH_take 1 148 (.string ⟨x.l.toArray⟩) rfl rfl (by kernel_rfl) (by kernel_rfl) (by kernel_rfl) (fun _ _ _ h => h) (.inl ⟨by rfl, fun w'' hS => by have q0 := (HC.out w'' hS).2.1; go_simp⟩) hS0 ?_
                  (simp only [List.setIfInBounds_toArray, List.set_cons_zero, List.set_cons_succ])
                  refine anyH_take 2 149 (.slice (some ⟨b, off, none⟩) xs.length cap) rfl rfl (by kernel_rfl) (by kernel_rfl) (by kernel_rfl) (fun _ _ _ h => h) (.inl ⟨by rfl, fun w'' hS => by go_simp⟩) hS0 ?_
                  (simp only [List.setIfInBounds_toArray, List.set_cons_zero, List.set_cons_succ])
                  refine anyH_take 3 150 (.int .i64 (i : Nat)) rfl rfl (by kernel_rfl) (by kernel_rfl) (by kernel_rfl) (fun _ _ _ h => h) (.inl ⟨by rfl, fun w'' hS => by go_simp⟩) hS0 ?_
                  (simp only [List.setIfInBounds_toArray, List.set_cons_zero, List.set_cons_succ])
                  refine anyH_take 4 151 (.pointer (some ⟨b, off + i * 3, none⟩)) rfl rfl (by kernel_rfl) (by kernel_rfl) (by kernel_rfl) (fun _ _ _ h => h) (.inl ⟨by rfl, fun w'' hS => by go_simp⟩) hS0 ?_
                  (simp only [List.setIfInBounds_toArray, List.set_cons_zero, List.set_cons_succ])
                  refine anyH_take 5 152 (.pointer (some ⟨b, off + i * 3 + 2, none⟩)) rfl rfl (by kernel_rfl) (by kernel_rfl) (by kernel_rfl) (fun _ _ _ h => h) (.inl ⟨by rfl, fun w'' hS => by go_simp⟩) hS0 ?_
                  (simp only [List.setIfInBounds_toArray, List.set_cons_zero, List.set_cons_succ])
                  refine anyH_take 6 153 (.slice x.A x.m x.k) rfl rfl (by kernel_rfl) (by kernel_rfl) (by kernel_rfl) (fun _ _ _ h => h) (.inl ⟨by rfl, fun w'' hS => by have q0 := (HC.out w'' hS).1; go_simp⟩) hS0 ?_
                  (simp only [List.setIfInBounds_toArray, List.set_cons_zero, List.set_cons_succ])
                  refine anyH_take 7 154 (.string ⟨x.l.toArray⟩) rfl rfl (by kernel_rfl) (by kernel_rfl) (by kernel_rfl) (fun _ _ _ h => h) (.inl ⟨by rfl, fun w'' hS => by have q0 := (HC.out w'' hS).2.2; go_simp⟩) hS0 ?_
                  (simp only [List.setIfInBounds_toArray, List.set_cons_zero, List.set_cons_succ])
                  refine anyH_take 8 155 (.bool true) rfl rfl (by kernel_rfl) (by kernel_rfl) (by kernel_rfl) (fun _ _ _ h => h) (.inl ⟨by rfl, fun w'' hS => by go_simp⟩) hS0 ?_
                  (simp only [List.setIfInBounds_toArray, List.set_cons_zero, List.set_cons_succ])
                  refine anyH_take 9 156 (.bool true) rfl rfl (by kernel_rfl) (by kernel_rfl) (by kernel_rfl) (fun _ _ _ h => h) (.inl ⟨by rfl, fun w'' hS => by go_simp⟩) hS0 ?_
                  (simp only [List.setIfInBounds_toArray, List.set_cons_zero, List.set_cons_succ])
                  refine anyH_take 10 157 (.int .i64 (needN x.l.length : Nat)) rfl rfl (by kernel_rfl) (by kernel_rfl) (by kernel_rfl) (fun _ _ _ h => h) (.inl ⟨by rfl, fun w'' hS => by go_simp⟩) hS0 ?_
                  (simp only [List.setIfInBounds_toArray, List.set_cons_zero, List.set_cons_succ])
                  refine anyH_take 11 158 (.slice A' x.l.length x.l.length) rfl rfl (by kernel_rfl) (by kernel_rfl) (by kernel_rfl) (fun _ _ _ h => h) (.inl ⟨by rfl, fun w'' hS => by go_simp⟩) hS0 ?_
                  (simp only [List.setIfInBounds_toArray, List.set_cons_zero, List.set_cons_succ])
                  refine anyH_take 12 159 (.int .i64 (x.l.length : Nat)) rfl rfl (by kernel_rfl) (by kernel_rfl) (by kernel_rfl) (fun _ _ _ h => h) (.inl ⟨by rfl, fun w'' hS => by go_simp⟩) hS0 ?_
                  (simp only [List.setIfInBounds_toArray, List.set_cons_zero, List.set_cons_succ])
                  refine anyH_one 13 160 (.int .i64 (needN x.l.length : Nat)) (by kernel_rfl) (tame_call 160 rfl rfl (by rfl) (fun w'' hS => by go_simp) (fun w'' hS => ((need_any w'' (x.l.length : Nat)).mono fun e w3 he => ⟨he.1, he.2 ▸ hS⟩))) hS0 (fun wa hS0 => ?_)
                  (simp only [List.setIfInBounds_toArray, List.set_cons_zero, List.set_cons_succ])
                  refine anyH_take 14 161 (.bool true) rfl rfl (by kernel_rfl) (by kernel_rfl) (by kernel_rfl) (fun _ _ _ h => h) (.inl ⟨by rfl, fun w'' hS => by go_simp⟩) hS0 ?_
                  (simp only [List.setIfInBounds_toArray, List.set_cons_zero, List.set_cons_succ])
                  refine anyH_take 15 162 (.bool true) rfl rfl (by kernel_rfl) (by kernel_rfl) (by kernel_rfl) (fun _ _ _ h => h) (.inl ⟨by rfl, fun w'' hS => by go_simp⟩) hS0 ?_
                  (simp only [List.setIfInBounds_toArray, List.set_cons_zero, List.set_cons_succ])
                  refine anyH_take 16 163 (.bool true) rfl rfl (by kernel_rfl) (by kernel_rfl) (by kernel_rfl) (fun _ _ _ h => h) (.inl ⟨by rfl, fun w'' hS => by go_simp⟩) hS0 ?_
                  (simp only [List.setIfInBounds_toArray, List.set_cons_zero, List.set_cons_succ])
                  refine anyH_one 17 164 (.bool true) (by kernel_rfl) (tame_call 164 rfl rfl (by rfl) (fun w'' hS => by go_simp) (fun w'' hS => ((known_any w'').mono fun e w3 he => ⟨he.1, hS.trans he.2 (fun _ _ q => q)⟩))) hS0 (fun wb hS0 => ?_)
                  (simp only [List.setIfInBounds_toArray, List.set_cons_zero, List.set_cons_succ])
                  refine anyH_take 18 165 (.bool true) rfl rfl (by kernel_rfl) (by kernel_rfl) (by kernel_rfl) (fun _ _ _ h => h) (.inl ⟨by rfl, fun w'' hS => by go_simp⟩) hS0 ?_
                  (simp only [List.setIfInBounds_toArray, List.set_cons_zero, List.set_cons_succ])
                  refine anyH_take 19 6 (.bool true) rfl rfl (by kernel_rfl) (by kernel_rfl) (by kernel_rfl) (fun _ _ _ h => h) (.inl ⟨by rfl, fun w'' hS => by go_simp⟩) hS0 ?_
                  (simp only [List.setIfInBounds_toArray, List.set_cons_zero, List.set_cons_succ])
                  refine wpAnyH_done (by kernel_rfl) ?_ _
                  have HFE := Lib.hid (HF13.out.trans hS0 (fun _ _ q => q))
                  clear hS0
                  go_wp2_with fail
                  go_ret
                  exact ⟨rfl, HFE.out⟩
end Go.Proofs.Ytbnegiiombnnaaa
