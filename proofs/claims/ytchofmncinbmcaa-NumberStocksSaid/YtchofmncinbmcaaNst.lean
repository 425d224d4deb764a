/- couponref10: MayStock, In; the laws NumberLocators, NumberApart. -/
import Derived.Test.YtchofmncinbmcaaNpr
import Derived.Test.YtchofmncinbmcaaNtl
namespace Go.Proofs.Ytchofmncinbmcaa
open Go.RowKit

section
variable {ops : Array Oper} {o : Oper} {a : Act} {Q : Exit → Act → World → Prop}
set_option maxRecDepth 100000 in
theorem wpList_load_want {rest : List Oper} {w : World} (hw : Region.wanted o (yielded ops a.tmps) = true) (ty : TypeId) (x : Operand) (ho : o.op = .load ty x)
    (b f : Nat) (hx : a.eval x = .pointer (some ⟨b, f, none⟩)) (cs : List Value) (d : TypeDesc) (hc : w.rangeAt b f cs) (hu : Try.prog.underlying ty = some d) (hd : d.isRow = true) (hi : (Try.prog.info? ty).map (·.size) = some cs.length)
    (h : wpList Try.prog ops Q rest (a.put o.dst (.agg cs.toArray)) w) : wpList Try.prog ops Q (o :: rest) a w :=
  BigFrame.wpList_want hw fun _ hK => wp_load_mid ty x ho b f hx cs d hc hu hd hi (hK _ _ h)
end
abbrev stV (c f k : Int) : Value := .agg #[.int .i64 c, .int .i64 f, .int .i64 k]
set_option maxRecDepth 100000 in
theorem rmays_any (c f k : Int) (w : World) : Calls Try.prog 22 #[stV c f k] w fun e w' => e = .returned (.bool (mayS c f k)) ∧ Fr (fun _ => False) w w' := by
  have HC := Lib.hid (rmayc_any c (w.alloc (.cells #[.int .i64 c, .int .i64 f, .int .i64 k] 43)))
  obtain ⟨b, hb⟩ : ∃ b, b = mayS c f k := ⟨_, rfl⟩
  rw [← hb]
  have HB := Lib.hid hb
  clear hb
  by_cases h1 : 100 ≤ c ∧ c ≤ 999
  · rw [show mayC c = true from decide_eq_true h1] at HC
    by_cases h2 : 0 ≤ f
    · by_cases h3 : f ≤ 999999999
      · by_cases h4 : 1 ≤ k
        · by_cases h5 : k ≤ 1000000000 - f
          · obtain rfl : b = true := by rw [HB.out]; unfold mayS; first | (rw [decide_eq_true_eq]; omega) | (rw [decide_eq_false_iff_not]; omega)
            go_enter Try.func22, Try.ntmps22
            go_wp2_with fail
            refine HC.out.mono ?_
            rintro e w1 ⟨rfl, rfl⟩
            clear HC
            go_wp2_with fail
            go_ret
            exact ⟨rfl, (Fr.refl _ w).alloc _⟩
          · obtain rfl : b = false := by rw [HB.out]; unfold mayS; first | (rw [decide_eq_true_eq]; omega) | (rw [decide_eq_false_iff_not]; omega)
            go_enter Try.func22, Try.ntmps22
            go_wp2_with fail
            refine HC.out.mono ?_
            rintro e w1 ⟨rfl, rfl⟩
            clear HC
            go_wp2_with fail
            go_ret
            exact ⟨by show Ending.returned (.bool (decide (k ≤ 1000000000 - f))) = _; rw [decide_eq_false (by omega)], (Fr.refl _ w).alloc _⟩
        · obtain rfl : b = false := by rw [HB.out]; unfold mayS; first | (rw [decide_eq_true_eq]; omega) | (rw [decide_eq_false_iff_not]; omega)
          go_enter Try.func22, Try.ntmps22
          go_wp2_with fail
          refine HC.out.mono ?_
          rintro e w1 ⟨rfl, rfl⟩
          clear HC
          go_wp2_with fail
          go_ret
          exact ⟨rfl, (Fr.refl _ w).alloc _⟩
      · obtain rfl : b = false := by rw [HB.out]; unfold mayS; first | (rw [decide_eq_true_eq]; omega) | (rw [decide_eq_false_iff_not]; omega)
        go_enter Try.func22, Try.ntmps22
        go_wp2_with fail
        refine HC.out.mono ?_
        rintro e w1 ⟨rfl, rfl⟩
        clear HC
        go_wp2_with fail
        go_ret
        exact ⟨rfl, (Fr.refl _ w).alloc _⟩
    · obtain rfl : b = false := by rw [HB.out]; unfold mayS; first | (rw [decide_eq_true_eq]; omega) | (rw [decide_eq_false_iff_not]; omega)
      go_enter Try.func22, Try.ntmps22
      go_wp2_with fail
      refine HC.out.mono ?_
      rintro e w1 ⟨rfl, rfl⟩
      clear HC
      go_wp2_with fail
      go_ret
      exact ⟨rfl, (Fr.refl _ w).alloc _⟩
  · rw [show mayC c = false from decide_eq_false h1] at HC
    obtain rfl : b = false := by rw [HB.out]; unfold mayS; first | (rw [decide_eq_true_eq]; omega) | (rw [decide_eq_false_iff_not]; omega)
    go_enter Try.func22, Try.ntmps22
    go_wp2_with fail
    refine HC.out.mono ?_
    rintro e w1 ⟨rfl, rfl⟩
    clear HC
    go_wp2_with fail
    go_ret
    exact ⟨rfl, (Fr.refl _ w).alloc _⟩
set_option maxRecDepth 100000 in
theorem rin_any (c f k : Int) (n : Nat) (hn : n < 18446744073709551616) (w : World) : Calls Try.prog 26 #[stV c f k, .int .u64 n] w fun e w' => e = .returned (.bool (inS c f k n)) ∧ Fr (fun _ => False) w w' := by
  obtain ⟨W0, hW0⟩ : ∃ W0, W0 = w.alloc (.cells #[.int .i64 c, .int .i64 f, .int .i64 k] 43) := ⟨_, rfl⟩
  have f0 : Fr (fun _ => False) w W0 := by rw [hW0]; exact (Fr.refl _ w).alloc _
  have hb0 : Blk W0 w.heap.size 43 #[.int .i64 c, .int .i64 f, .int .i64 k] := by rw [hW0]; exact Blk.new w _ _
  have HP := Lib.hid (rparts_any n hn W0)
  obtain ⟨b, hb⟩ : ∃ b, b = inS c f k n := ⟨_, rfl⟩
  rw [← hb]
  obtain ⟨cc, hcc⟩ : ∃ cc, cc = carN n := ⟨_, rfl⟩
  obtain ⟨ss, hss⟩ : ∃ ss, ss = serN n := ⟨_, rfl⟩
  unfold inS at hb
  rw [← hcc, ← hss] at hb HP
  have HB := Lib.hid hb
  have H0 := Lib.hid (And.intro f0 hb0)
  clear hb hcc hss hn f0 hb0
  go_enter Try.func26, Try.ntmps26
  subst hW0
  go_wp2_with fail
  refine HP.out.mono ?_
  rintro e w1 ⟨rfl, f1⟩
  have hb1 := H0.out.2.keep f1 (fun q => q)
  have hr1 : w1.rangeAt w.heap.size 0 [.int .i64 c, .int .i64 f, .int .i64 k] := fun i u hi => by rw [hb1.cell, Nat.zero_add]; simpa using hi
  have HM := Lib.hid (rmays_any c f k w1)
  obtain ⟨m, hm⟩ : ∃ m, m = mayS c f k := ⟨_, rfl⟩
  rw [← hm] at HM
  have H1 := Lib.hid (And.intro hm (And.intro (H0.out.1.trans f1 (fun _ _ q => q)) hb1))
  clear hm f1 HP hb1
  go_wp2_with (refine wpList_load_mid rfl 43 _ rfl w.heap.size 0 rfl [.int .i64 c, .int .i64 f, .int .i64 k] _ hr1 Try.underlying43 rfl (by kernel_rfl) ?_)
  refine HM.out.mono ?_
  rintro e w2 ⟨rfl, f2⟩
  have hb2 := H1.out.2.2.keep f2 (fun q => q)
  have q0 : w2.cell? ⟨w.heap.size, 0, none⟩ = some (.int .i64 c) := by rw [hb2.cell]; rfl
  have q1 : w2.cell? ⟨w.heap.size, 1, none⟩ = some (.int .i64 f) := by rw [hb2.cell]; rfl
  have q2 : w2.cell? ⟨w.heap.size, 2, none⟩ = some (.int .i64 k) := by rw [hb2.cell]; rfl
  have H2 := Lib.hid (H1.out.2.1.trans f2 (fun _ _ q => q))
  clear f2 hb2 HM
  cases m with
  | false =>
    obtain rfl : b = false := by rw [HB.out, ← H1.out.1]; rfl
    clear q0 q1 q2
    go_wp2_with fail
    go_ret
    exact ⟨rfl, H2.out⟩
  | true =>
    have hms := of_decide_eq_true (show decide _ = true from H1.out.1.symm)
    have hB := HB.out
    rw [← H1.out.1, Bool.true_and] at hB
    by_cases h1 : (cc : Int) = c
    · have e1 : ((cc : Int) == c) = true := by rw [beq_iff_eq]; exact h1
      by_cases h2 : f ≤ (ss : Int)
      · by_cases h3 : (ss : Int) < f + k
        · obtain rfl : b = true := by rw [hB, decide_eq_true_eq]; exact ⟨h1, h2, h3⟩
          have hw : IntKind.i64.wrap (f + k) = f + k := by simp [IntKind.wrap, IntKind.signed, IntKind.bits]; omega
          clear hms hB h1
          go_wp2_with fail
          go_ret
          exact ⟨rfl, H2.out⟩
        · obtain rfl : b = false := by rw [hB, decide_eq_false_iff_not]; exact fun q => h3 q.2.2
          have hw : IntKind.i64.wrap (f + k) = f + k := by simp [IntKind.wrap, IntKind.signed, IntKind.bits]; omega
          clear hms hB h1
          go_wp2_with fail
          go_ret
          exact ⟨by show Ending.returned (.bool (decide ((ss : Int) < f + k))) = _; rw [decide_eq_false (by omega)], H2.out⟩
      · obtain rfl : b = false := by rw [hB, decide_eq_false_iff_not]; exact fun q => h2 q.2.1
        clear hms hB h1
        go_wp2_with fail
        go_ret
        exact ⟨rfl, H2.out⟩
    · have e1 : ((cc : Int) == c) = false := by rw [beq_eq_false_iff_ne]; exact h1
      obtain rfl : b = false := by rw [hB, decide_eq_false_iff_not]; exact fun q => h1 q.1
      clear hms hB h1
      go_wp2_with fail
      go_ret
      exact ⟨rfl, H2.out⟩
/-- A stock's numbers are of 8 bytes. -/
def InR (f k : Int) : Prop := f < 9223372036854775808 ∧ k < 9223372036854775808
/-- More of number's calls. -/
structure NumS : Prop where
  locator : ∀ (s : ByteArray) (w : World), s.size ≤ 1000 → Calls Try.prog 28 #[.string s] w fun e w' => e = .returned (.bool (locB s.data.toList)) ∧ Fr (fun _ => False) w w'
  in_ : ∀ (c f k : Int) (n : Nat) (w : World), InR f k → n < 18446744073709551616 → Calls Try.prog 25 #[stV c f k, .int .u64 n] w fun e w' => e = .returned (.bool (inS c f k n)) ∧ Fr (fun _ => False) w w'
theorem nlocs (P : NumP) (Q : NumS) (s : ByteArray) (w : World) : Calls Try.prog 8 #[.string s] w fun e w' => e = .returned (.bool true) ∧ Fr (fun _ => False) w w' := by
  by_cases hl : 100 < s.size
  · have hl' : (100 : Int) < (s.size : Int) := by omega
    go_enter Try.func8, Try.ntmps8
    go_wp2_with fail
    refine (nknown P _).mono ?_
    rintro e wk ⟨rfl, fk⟩
    have HK := Lib.hid fk
    clear fk
    go_wp2_with fail
    go_ret
    exact ⟨rfl, HK.out⟩
  · have hl' : ¬ (100 : Int) < (s.size : Int) := by omega
    have hl2 : (s.size : Int) ≤ 100 := by omega
    have HA := Lib.hid (Q.locator s w (by omega))
    have HR := Lib.hid (fun W => rloc_any s (by omega) W)
    obtain ⟨b, hb⟩ : ∃ b, b = locB s.data.toList := ⟨_, rfl⟩
    simp only [← hb] at HA HR
    have heq : (b == b) = true := by cases b <;> rfl
    clear hb
    go_enter Try.func8, Try.ntmps8
    go_wp2_with fail
    refine HA.out.mono ?_
    rintro e w1 ⟨rfl, f1⟩
    go_wp2_with fail
    refine (HR.out w1).mono ?_
    rintro e w2 ⟨rfl, rfl⟩
    have H9 := Lib.hid f1
    clear f1 HA HR
    go_wp2_with fail
    refine (nknown P _).mono ?_
    rintro e wk ⟨rfl, fk⟩
    have HK := Lib.hid fk
    clear fk
    go_wp2_with fail
    go_ret
    exact ⟨rfl, H9.out.trans HK.out (fun _ _ q => q)⟩
end Go.Proofs.Ytchofmncinbmcaa
