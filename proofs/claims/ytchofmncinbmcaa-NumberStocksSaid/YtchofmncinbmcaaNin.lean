/- number: MayStock, In, Nth. -/
import Derived.Test.YtchofmncinbmcaaNst
import Derived.Test.YtchofmncinbmcaaNof
import Derived.Test.YtchofmncinbmcaaNlo
namespace Go.Proofs.Ytchofmncinbmcaa
open Go.RowKit

set_option maxRecDepth 100000 in
theorem nmayst_any (c f k : Int) (hr : InR f k) (w : World) : Calls Try.prog 24 #[stV c f k] w fun e w' => e = .returned (.bool (mayS c f k)) ∧ Fr (fun _ => False) w w' := by
  have HC := Lib.hid (nmayc_any c (w.alloc (.cells #[.int .i64 c, .int .i64 f, .int .i64 k] 43)))
  obtain ⟨b, hb⟩ : ∃ b, b = mayS c f k := ⟨_, rfl⟩
  rw [← hb]
  have HB := Lib.hid hb
  clear hb
  obtain ⟨hf, hk⟩ := hr
  by_cases h1 : 100 ≤ c ∧ c ≤ 999
  · rw [show mayC c = true from decide_eq_true h1] at HC
    by_cases h2 : 0 ≤ f
    · by_cases h4 : 1 ≤ k
      · have w1 : IntKind.i64.wrap (k - 1) = k - 1 := by simp [IntKind.wrap, IntKind.signed, IntKind.bits]; omega
        have w2 : IntKind.i64.wrap (999999999 - f) = 999999999 - f := by simp [IntKind.wrap, IntKind.signed, IntKind.bits]; omega
        have w3 : wrap64 (k - 1) = k - 1 := by unfold wrap64; omega
        have w4 : wrap64 (999999999 - f) = 999999999 - f := by unfold wrap64; omega
        have HK := Lib.hid (And.intro hf hk)
        clear hf hk
        by_cases h5 : k - 1 ≤ 999999999 - f
        · obtain rfl : b = true := by rw [HB.out]; unfold mayS; rw [decide_eq_true_eq]; omega
          go_enter Try.func24, Try.ntmps24
          go_wp2_with fail
          refine HC.out.mono ?_
          rintro e w1 ⟨rfl, rfl⟩
          clear HC
          go_wp2_with fail
          go_ret
          exact ⟨by first | rfl | (show Ending.returned (.bool (decide _)) = _; rw [decide_eq_true (by omega)]), (Fr.refl _ w).alloc _⟩
        · obtain rfl : b = false := by rw [HB.out]; unfold mayS; rw [decide_eq_false_iff_not]; omega
          go_enter Try.func24, Try.ntmps24
          go_wp2_with fail
          refine HC.out.mono ?_
          rintro e w1 ⟨rfl, rfl⟩
          clear HC
          go_wp2_with fail
          go_ret
          exact ⟨by first | rfl | (show Ending.returned (.bool (decide (k - 1 ≤ 999999999 - f))) = _; rw [decide_eq_false (by omega)]), (Fr.refl _ w).alloc _⟩
      · clear hf hk
        obtain rfl : b = false := by rw [HB.out]; unfold mayS; rw [decide_eq_false_iff_not]; omega
        go_enter Try.func24, Try.ntmps24
        go_wp2_with fail
        refine HC.out.mono ?_
        rintro e w1 ⟨rfl, rfl⟩
        clear HC
        go_wp2_with fail
        go_ret
        exact ⟨rfl, (Fr.refl _ w).alloc _⟩
    · clear hf hk
      obtain rfl : b = false := by rw [HB.out]; unfold mayS; rw [decide_eq_false_iff_not]; omega
      go_enter Try.func24, Try.ntmps24
      go_wp2_with fail
      refine HC.out.mono ?_
      rintro e w1 ⟨rfl, rfl⟩
      clear HC
      go_wp2_with fail
      go_ret
      exact ⟨rfl, (Fr.refl _ w).alloc _⟩
  · clear hf hk
    rw [show mayC c = false from decide_eq_false h1] at HC
    obtain rfl : b = false := by rw [HB.out]; unfold mayS; rw [decide_eq_false_iff_not]; omega
    go_enter Try.func24, Try.ntmps24
    go_wp2_with fail
    refine HC.out.mono ?_
    rintro e w1 ⟨rfl, rfl⟩
    clear HC
    go_wp2_with fail
    go_ret
    exact ⟨rfl, (Fr.refl _ w).alloc _⟩
-- IN
section
variable {P : Program} {ops : Array Oper} {Q : Exit → Act → World → Prop} {md : Region.Mode} {S : World → Prop}

/-- The operation i answers v, in whatever memory of S, and leaves memory of S. -/
def Tame (P : Program) (ops : Array Oper) (Q : Exit → Act → World → Prop) (S : World → Prop) (i : Nat) (d : Tmp) (v : Value) (T : Array Value) (ds : List Deferred) : Prop :=
  ∀ w, S w → ∀ K : Act → World → Prop, (∀ w', S w' → K { tmps := T.setIfInBounds d v, defers := ds } w') → wpOp P ops Q i K { tmps := T, defers := ds } w
theorem tame_call {i : Nat} {o : Oper} {T : Array Value} {ds : List Deferred} {f : FuncId} {args : Array Value} {v : Value} (d : Tmp) (ho : ops[i]? = some o) (hd : o.dst = some d) (hw : Region.wanted o (yielded ops T) = true)
    (hr : ∀ w, S w → (execOp (Act.eval { tmps := T, defers := ds }) o).run P w = .ok (.enter f args) w) (h : ∀ w, S w → Calls P f args w fun e w' => e = .returned v ∧ S w') : Tame P ops Q S i d v T ds := fun w hS K hK =>
  wpOp_call d ho hd hw (hr w hS) ((h w hS).mono fun e w' he => ⟨v, he.1, hK w' he.2⟩)
theorem anyH_one (i : Nat) (d : Tmp) (v : Value) {fuel : Nat} {listed : Array Bool} {T : Array Value} {ds : List Deferred} {w : World} (hr : Region.ready md ops listed = [i])
    (ht : Tame P ops Q S i d v T ds) (hS : S w) (h : ∀ w', S w' → wpAnyH P md ops Q S fuel (listed.setIfInBounds i true) { tmps := T.setIfInBounds d v, defers := ds } w') : wpAnyH P md ops Q S (fuel + 1) listed { tmps := T, defers := ds } w := by
  refine wpAnyH_all hr (by simp) fun j hj => ?_
  obtain rfl := List.mem_singleton.1 hj
  exact ht w hS _ fun w' hS' => ⟨hS', h w' hS'⟩
end
set_option maxRecDepth 100000 in
set_option maxHeartbeats 1000000 in
theorem nin_any (c f k : Int) (n : Nat) (w : World) (hr : InR f k) (hn : n < 18446744073709551616) : Calls Try.prog 25 #[stV c f k, .int .u64 n] w fun e w' => e = .returned (.bool (inS c f k n)) ∧ Fr (fun _ => False) w w' := by
  obtain ⟨W0, hW0⟩ : ∃ W0, W0 = w.alloc (.cells #[.int .i64 c, .int .i64 f, .int .i64 k] 43) := ⟨_, rfl⟩
  have f0 : Fr (fun _ => False) w W0 := by rw [hW0]; exact (Fr.refl _ w).alloc _
  have hb0 : Blk W0 w.heap.size 43 #[.int .i64 c, .int .i64 f, .int .i64 k] := by rw [hW0]; exact Blk.new w _ _
  have hcell : ∀ w', Fr (fun _ => False) W0 w' → w'.cell? ⟨w.heap.size, 0, none⟩ = some (.int .i64 c) ∧ w'.cell? ⟨w.heap.size, 1, none⟩ = some (.int .i64 f) ∧ w'.cell? ⟨w.heap.size, 2, none⟩ = some (.int .i64 k) := fun w' g => by
    have hb := hb0.keep g (fun q => q)
    exact ⟨by rw [hb.cell]; rfl, by rw [hb.cell]; rfl, by rw [hb.cell]; rfl⟩
  have HM := Lib.hid (fun W => nmayst_any c f k hr W)
  have HCa := Lib.hid (fun W => ncar_any n hn W)
  have HSe := Lib.hid (fun W => nser_any n hn W)
  obtain ⟨b, hb⟩ : ∃ b, b = inS c f k n := ⟨_, rfl⟩
  obtain ⟨m, hm⟩ : ∃ m, m = mayS c f k := ⟨_, rfl⟩
  obtain ⟨cc, hcc⟩ : ∃ cc, cc = carN n := ⟨_, rfl⟩
  obtain ⟨ss, hss⟩ : ∃ ss, ss = serN n := ⟨_, rfl⟩
  rw [← hb]
  simp only [← hcc] at HCa
  simp only [← hss] at HSe
  simp only [← hm] at HM
  unfold inS at hb
  rw [← hcc, ← hss, ← hm] at hb
  have hs9 : ss ≤ 999999999 := by
    rw [hss]
    by_cases q : chkE n = 0
    · exact (mkN_of q).2.2.1
    · unfold serN
      rw [if_neg q]
      omega
  have HB := Lib.hid hb
  have H0 := Lib.hid f0
  have HM2 := Lib.hid hm
  clear hb hcc hss hn f0 hb0 hm hr
  cases m with
  | false =>
    obtain rfl : b = false := by rw [HB.out]; rfl
    go_enter Try.func25, Try.ntmps25
    go_upto_region 1 with fail
    rw [← hW0]
    clear hW0
    refine wp_region_held_drew (S := fun w' => Fr (fun _ => False) W0 w') (by kernel_rfl) ((Fr.refl _ W0).drew) (fun hS0 => ?_)
    refine anyH_take 0 6 (.agg #[.int .i64 c, .int .i64 f, .int .i64 k]) rfl rfl (by kernel_rfl) (by kernel_rfl) (by kernel_rfl) (fun _ _ _ h => h) (.inl ⟨by rfl, fun w'' hS => by have q0 := (hcell _ hS).1; have q1 := (hcell _ hS).2.1; have q2 := (hcell _ hS).2.2; go_simp⟩) hS0 ?_
    (simp only [List.setIfInBounds_toArray, List.set_cons_zero, List.set_cons_succ])
    refine anyH_one 1 7 (.bool false) (by kernel_rfl) (tame_call 7 rfl rfl (by rfl) (fun w'' hS => by go_simp) (fun w'' hS => ((HM.out _).mono fun e w3 he => ⟨he.1, hS.trans he.2 (fun _ _ q => q)⟩))) hS0 (fun w1 hS0 => ?_)
    (simp only [List.setIfInBounds_toArray, List.set_cons_zero, List.set_cons_succ])
    refine anyH_take 2 8 (.bool true) rfl rfl (by kernel_rfl) (by kernel_rfl) (by kernel_rfl) (fun _ _ _ h => h) (.inl ⟨by rfl, fun w'' hS => by go_simp⟩) hS0 ?_
    (simp only [List.setIfInBounds_toArray, List.set_cons_zero, List.set_cons_succ])
    refine anyH_take 3 9 (.bool true) rfl rfl (by kernel_rfl) (by kernel_rfl) (by kernel_rfl) (fun _ _ _ h => h) (.inl ⟨by rfl, fun w'' hS => by go_simp⟩) hS0 ?_
    (simp only [List.setIfInBounds_toArray, List.set_cons_zero, List.set_cons_succ])
    refine anyH_take 4 10 undef rfl rfl (by kernel_rfl) (by kernel_rfl) (by kernel_rfl) (fun _ _ _ h => h) (.inr ⟨by rfl, rfl⟩) hS0 ?_
    (simp only [List.setIfInBounds_toArray, List.set_cons_zero, List.set_cons_succ])
    refine anyH_take 5 11 undef rfl rfl (by kernel_rfl) (by kernel_rfl) (by kernel_rfl) (fun _ _ _ h => h) (.inr ⟨by rfl, rfl⟩) hS0 ?_
    (simp only [List.setIfInBounds_toArray, List.set_cons_zero, List.set_cons_succ])
    refine anyH_take 6 12 undef rfl rfl (by kernel_rfl) (by kernel_rfl) (by kernel_rfl) (fun _ _ _ h => h) (.inr ⟨by rfl, rfl⟩) hS0 ?_
    (simp only [List.setIfInBounds_toArray, List.set_cons_zero, List.set_cons_succ])
    refine anyH_take 7 13 undef rfl rfl (by kernel_rfl) (by kernel_rfl) (by kernel_rfl) (fun _ _ _ h => h) (.inr ⟨by rfl, rfl⟩) hS0 ?_
    (simp only [List.setIfInBounds_toArray, List.set_cons_zero, List.set_cons_succ])
    refine anyH_take 8 14 undef rfl rfl (by kernel_rfl) (by kernel_rfl) (by kernel_rfl) (fun _ _ _ h => h) (.inr ⟨by rfl, rfl⟩) hS0 ?_
    (simp only [List.setIfInBounds_toArray, List.set_cons_zero, List.set_cons_succ])
    refine anyH_take 9 15 (.bool true) rfl rfl (by kernel_rfl) (by kernel_rfl) (by kernel_rfl) (fun _ _ _ h => h) (.inl ⟨by rfl, fun w'' hS => by go_simp⟩) hS0 ?_
    (simp only [List.setIfInBounds_toArray, List.set_cons_zero, List.set_cons_succ])
    refine wpAnyH_done (by kernel_rfl) ?_ _
    have HF := Lib.hid (H0.out.trans hS0 (fun _ _ q => q))
    clear hS0
    clear hS0 hcell
    go_wp2_with fail
    go_ret
    exact ⟨rfl, HF.out⟩
  | true =>
    have hms := of_decide_eq_true (show decide _ = true from HM2.out.symm)
    have hB := HB.out
    rw [Bool.true_and] at hB
    by_cases h1 : (cc : Int) = c
    · have HNE : Hid (((cc : Int) != c) = false) := Lib.hid (by rw [bne_eq_false_iff_eq]; exact h1)
      have HSB : Hid (IntKind.i64.wrap ((ss : Int) - f) = (ss : Int) - f) := Lib.hid (by simp [IntKind.wrap, IntKind.signed, IntKind.bits]; omega)
      go_enter Try.func25, Try.ntmps25
      go_upto_region 1 with fail
      rw [← hW0]
      clear hW0
      refine wp_region_held_drew (S := fun w' => Fr (fun _ => False) W0 w') (by kernel_rfl) ((Fr.refl _ W0).drew) (fun hS0 => ?_)
      refine anyH_take 0 6 (.agg #[.int .i64 c, .int .i64 f, .int .i64 k]) rfl rfl (by kernel_rfl) (by kernel_rfl) (by kernel_rfl) (fun _ _ _ h => h) (.inl ⟨by rfl, fun w'' hS => by have q0 := (hcell _ hS).1; have q1 := (hcell _ hS).2.1; have q2 := (hcell _ hS).2.2; go_simp⟩) hS0 ?_
      (simp only [List.setIfInBounds_toArray, List.set_cons_zero, List.set_cons_succ])
      refine anyH_one 1 7 (.bool true) (by kernel_rfl) (tame_call 7 rfl rfl (by rfl) (fun w'' hS => by go_simp) (fun w'' hS => ((HM.out _).mono fun e w3 he => ⟨he.1, hS.trans he.2 (fun _ _ q => q)⟩))) hS0 (fun w1 hS0 => ?_)
      (simp only [List.setIfInBounds_toArray, List.set_cons_zero, List.set_cons_succ])
      refine anyH_take 2 8 (.bool false) rfl rfl (by kernel_rfl) (by kernel_rfl) (by kernel_rfl) (fun _ _ _ h => h) (.inl ⟨by rfl, fun w'' hS => by go_simp⟩) hS0 ?_
      (simp only [List.setIfInBounds_toArray, List.set_cons_zero, List.set_cons_succ])
      refine anyH_take 3 9 (.bool false) rfl rfl (by kernel_rfl) (by kernel_rfl) (by kernel_rfl) (fun _ _ _ h => h) (.inl ⟨by rfl, fun w'' hS => by go_simp⟩) hS0 ?_
      (simp only [List.setIfInBounds_toArray, List.set_cons_zero, List.set_cons_succ])
      refine anyH_take 4 10 (.int .u64 (n : Nat)) rfl rfl (by kernel_rfl) (by kernel_rfl) (by kernel_rfl) (fun _ _ _ h => h) (.inl ⟨by rfl, fun w'' hS => by go_simp⟩) hS0 ?_
      (simp only [List.setIfInBounds_toArray, List.set_cons_zero, List.set_cons_succ])
      refine anyH_take 6 12 (.pointer (some ⟨w.heap.size, 0, none⟩)) rfl rfl (by kernel_rfl) (by kernel_rfl) (by kernel_rfl) (fun _ _ _ h => h) (.inl ⟨by rfl, fun w'' hS => by go_simp⟩) hS0 ?_
      (simp only [List.setIfInBounds_toArray, List.set_cons_zero, List.set_cons_succ])
      refine anyH_take 7 13 (.int .i64 c) rfl rfl (by kernel_rfl) (by kernel_rfl) (by kernel_rfl) (fun _ _ _ h => h) (.inl ⟨by rfl, fun w'' hS => by have q0 := (hcell _ hS).1; go_simp⟩) hS0 ?_
      (simp only [List.setIfInBounds_toArray, List.set_cons_zero, List.set_cons_succ])
      refine anyH_one 5 11 (.int .i64 (cc : Nat)) (by kernel_rfl) (tame_call 11 rfl rfl (by rfl) (fun w'' hS => by go_simp) (fun w'' hS => ((HCa.out _).mono fun e w3 he => ⟨he.1, he.2 ▸ hS⟩))) hS0 (fun w2 hS0 => ?_)
      (simp only [List.setIfInBounds_toArray, List.set_cons_zero, List.set_cons_succ])
      refine anyH_take 8 14 (.bool false) rfl rfl (by kernel_rfl) (by kernel_rfl) (by kernel_rfl) (fun _ _ _ h => h) (.inl ⟨by rfl, fun w'' hS => by have q0 := HNE.out; go_simp⟩) hS0 ?_
      (simp only [List.setIfInBounds_toArray, List.set_cons_zero, List.set_cons_succ])
      refine anyH_take 9 15 (.bool false) rfl rfl (by kernel_rfl) (by kernel_rfl) (by kernel_rfl) (fun _ _ _ h => h) (.inl ⟨by rfl, fun w'' hS => by go_simp⟩) hS0 ?_
      (simp only [List.setIfInBounds_toArray, List.set_cons_zero, List.set_cons_succ])
      refine wpAnyH_done (by kernel_rfl) ?_ _
      have hF2 := hS0
      clear hS0
      clear hS0
      clear hS0
      go_upto_region 3 with fail
      refine wp_region_held_drew (S := fun w' => Fr (fun _ => False) W0 w') (by kernel_rfl) ((hF2.trans (Fr.refl (fun _ => False) _).drew (fun _ _ q => q))) (fun hS0 => ?_)
      refine anyH_take 0 16 (.int .u64 (n : Nat)) rfl rfl (by kernel_rfl) (by kernel_rfl) (by kernel_rfl) (fun _ _ _ h => h) (.inl ⟨by rfl, fun w'' hS => by go_simp⟩) hS0 ?_
      (simp only [List.setIfInBounds_toArray, List.set_cons_zero, List.set_cons_succ])
      refine anyH_take 2 18 (.pointer (some ⟨w.heap.size, 1, none⟩)) rfl rfl (by kernel_rfl) (by kernel_rfl) (by kernel_rfl) (fun _ _ _ h => h) (.inl ⟨by rfl, fun w'' hS => by go_simp⟩) hS0 ?_
      (simp only [List.setIfInBounds_toArray, List.set_cons_zero, List.set_cons_succ])
      refine anyH_take 3 19 (.int .i64 f) rfl rfl (by kernel_rfl) (by kernel_rfl) (by kernel_rfl) (fun _ _ _ h => h) (.inl ⟨by rfl, fun w'' hS => by have q0 := (hcell _ hS).2.1; go_simp⟩) hS0 ?_
      (simp only [List.setIfInBounds_toArray, List.set_cons_zero, List.set_cons_succ])
      refine anyH_one 1 17 (.int .i64 (ss : Nat)) (by kernel_rfl) (tame_call 17 rfl rfl (by rfl) (fun w'' hS => by go_simp) (fun w'' hS => ((HSe.out _).mono fun e w3 he => ⟨he.1, he.2 ▸ hS⟩))) hS0 (fun w4 hS0 => ?_)
      (simp only [List.setIfInBounds_toArray, List.set_cons_zero, List.set_cons_succ])
      refine anyH_take 4 20 (.int .i64 ((ss : Int) - f)) rfl rfl (by kernel_rfl) (by kernel_rfl) (by kernel_rfl) (fun _ _ _ h => h) (.inl ⟨by rfl, fun w'' hS => by have q0 := HSB.out; go_simp⟩) hS0 ?_
      (simp only [List.setIfInBounds_toArray, List.set_cons_zero, List.set_cons_succ])
      refine anyH_take 5 5 (.int .i64 ((ss : Int) - f)) rfl rfl (by kernel_rfl) (by kernel_rfl) (by kernel_rfl) (fun _ _ _ h => h) (.inl ⟨by rfl, fun w'' hS => by go_simp⟩) hS0 ?_
      (simp only [List.setIfInBounds_toArray, List.set_cons_zero, List.set_cons_succ])
      refine wpAnyH_done (by kernel_rfl) ?_ _
      have HF := Lib.hid (H0.out.trans hS0 (fun _ _ q => q))
      have hk := (hcell _ hS0).2.2
      clear hS0
      clear hS0
      clear hcell hF2
      obtain ⟨p, hp⟩ : ∃ p : Int, p = (ss : Int) - f := ⟨_, rfl⟩
      rw [← hp]
      by_cases h2 : 0 ≤ p
      · by_cases h3 : p < k
        · obtain rfl : b = true := by rw [hB, decide_eq_true_eq]; omega
          have hd : decide (p < k) = true := decide_eq_true h3
          clear hms hB h1 hp
          go_wp2_with fail
          go_ret
          exact ⟨by first | rfl | (rw [hd]), HF.out⟩
        · obtain rfl : b = false := by rw [hB, decide_eq_false_iff_not]; omega
          have hd : decide (p < k) = false := decide_eq_false h3
          clear hms hB h1 hp
          go_wp2_with fail
          go_ret
          exact ⟨by first | rfl | (show Ending.returned (.bool (decide (p < k))) = _; rw [hd]), HF.out⟩
      · obtain rfl : b = false := by rw [hB, decide_eq_false_iff_not]; omega
        clear hms hB h1 hp
        go_wp2_with fail
        go_ret
        exact ⟨rfl, HF.out⟩
    · have HNE : Hid (((cc : Int) != c) = true) := Lib.hid (by rw [bne_iff_ne]; exact h1)
      obtain rfl : b = false := by rw [hB, decide_eq_false_iff_not]; exact fun q => h1 q.1
      clear hms hB h1
      go_enter Try.func25, Try.ntmps25
      go_upto_region 1 with fail
      rw [← hW0]
      clear hW0
      refine wp_region_held_drew (S := fun w' => Fr (fun _ => False) W0 w') (by kernel_rfl) ((Fr.refl _ W0).drew) (fun hS0 => ?_)
      refine anyH_take 0 6 (.agg #[.int .i64 c, .int .i64 f, .int .i64 k]) rfl rfl (by kernel_rfl) (by kernel_rfl) (by kernel_rfl) (fun _ _ _ h => h) (.inl ⟨by rfl, fun w'' hS => by have q0 := (hcell _ hS).1; have q1 := (hcell _ hS).2.1; have q2 := (hcell _ hS).2.2; go_simp⟩) hS0 ?_
      (simp only [List.setIfInBounds_toArray, List.set_cons_zero, List.set_cons_succ])
      refine anyH_one 1 7 (.bool true) (by kernel_rfl) (tame_call 7 rfl rfl (by rfl) (fun w'' hS => by go_simp) (fun w'' hS => ((HM.out _).mono fun e w3 he => ⟨he.1, hS.trans he.2 (fun _ _ q => q)⟩))) hS0 (fun w1 hS0 => ?_)
      (simp only [List.setIfInBounds_toArray, List.set_cons_zero, List.set_cons_succ])
      refine anyH_take 2 8 (.bool false) rfl rfl (by kernel_rfl) (by kernel_rfl) (by kernel_rfl) (fun _ _ _ h => h) (.inl ⟨by rfl, fun w'' hS => by go_simp⟩) hS0 ?_
      (simp only [List.setIfInBounds_toArray, List.set_cons_zero, List.set_cons_succ])
      refine anyH_take 3 9 (.bool false) rfl rfl (by kernel_rfl) (by kernel_rfl) (by kernel_rfl) (fun _ _ _ h => h) (.inl ⟨by rfl, fun w'' hS => by go_simp⟩) hS0 ?_
      (simp only [List.setIfInBounds_toArray, List.set_cons_zero, List.set_cons_succ])
      refine anyH_take 4 10 (.int .u64 (n : Nat)) rfl rfl (by kernel_rfl) (by kernel_rfl) (by kernel_rfl) (fun _ _ _ h => h) (.inl ⟨by rfl, fun w'' hS => by go_simp⟩) hS0 ?_
      (simp only [List.setIfInBounds_toArray, List.set_cons_zero, List.set_cons_succ])
      refine anyH_take 6 12 (.pointer (some ⟨w.heap.size, 0, none⟩)) rfl rfl (by kernel_rfl) (by kernel_rfl) (by kernel_rfl) (fun _ _ _ h => h) (.inl ⟨by rfl, fun w'' hS => by go_simp⟩) hS0 ?_
      (simp only [List.setIfInBounds_toArray, List.set_cons_zero, List.set_cons_succ])
      refine anyH_take 7 13 (.int .i64 c) rfl rfl (by kernel_rfl) (by kernel_rfl) (by kernel_rfl) (fun _ _ _ h => h) (.inl ⟨by rfl, fun w'' hS => by have q0 := (hcell _ hS).1; go_simp⟩) hS0 ?_
      (simp only [List.setIfInBounds_toArray, List.set_cons_zero, List.set_cons_succ])
      refine anyH_one 5 11 (.int .i64 (cc : Nat)) (by kernel_rfl) (tame_call 11 rfl rfl (by rfl) (fun w'' hS => by go_simp) (fun w'' hS => ((HCa.out _).mono fun e w3 he => ⟨he.1, he.2 ▸ hS⟩))) hS0 (fun w2 hS0 => ?_)
      (simp only [List.setIfInBounds_toArray, List.set_cons_zero, List.set_cons_succ])
      refine anyH_take 8 14 (.bool true) rfl rfl (by kernel_rfl) (by kernel_rfl) (by kernel_rfl) (fun _ _ _ h => h) (.inl ⟨by rfl, fun w'' hS => by have q0 := HNE.out; go_simp⟩) hS0 ?_
      (simp only [List.setIfInBounds_toArray, List.set_cons_zero, List.set_cons_succ])
      refine anyH_take 9 15 (.bool true) rfl rfl (by kernel_rfl) (by kernel_rfl) (by kernel_rfl) (fun _ _ _ h => h) (.inl ⟨by rfl, fun w'' hS => by go_simp⟩) hS0 ?_
      (simp only [List.setIfInBounds_toArray, List.set_cons_zero, List.set_cons_succ])
      refine wpAnyH_done (by kernel_rfl) ?_ _
      have HF := Lib.hid (H0.out.trans hS0 (fun _ _ q => q))
      clear hS0
      clear hS0
      clear hS0 hcell
      go_wp2_with fail
      go_ret
      exact ⟨rfl, HF.out⟩
end Go.Proofs.Ytchofmncinbmcaa
