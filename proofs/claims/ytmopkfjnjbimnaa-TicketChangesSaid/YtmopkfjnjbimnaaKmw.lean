/- couponref13: Numbered, some, day, MayWith, mayCoupon. -/
import Derived.Test.YtmopkfjnjbimnaaKsa
namespace Go.Proofs.Ytmopkfjnjbimnaa
open Go.RowKit

set_option maxRecDepth 100000 in
theorem rnumb_any (n : Nat) (hn : u64B n) (w : World) : Calls Try.prog 33 #[.int .u64 (n : Nat)] w fun e w' => e = .returned (.bool (numB n)) ∧ Fr (fun _ => False) w w' := by
  have H := Lib.hid (rcheck_any n hn w)
  obtain ⟨k, hk⟩ : ∃ k, k = chkE n := ⟨_, rfl⟩
  have e : numB n = decide (k = 0) := by rw [hk]; rfl
  rw [← hk] at H
  rw [e]
  clear e hk
  by_cases h : k = 0
  · have hki : ((k : Int) == 0) = true := by rw [beq_iff_eq]; omega
    rw [decide_eq_true h]
    go_enter Try.func33, Try.ntmps33
    go_wp2_with fail
    refine H.out.mono ?_
    rintro e w1 ⟨rfl, f1⟩
    have HF := Lib.hid f1
    clear f1
    go_wp2_with fail
    go_ret
    exact ⟨rfl, HF.out⟩
  · have hki : ((k : Int) == 0) = false := by rw [beq_eq_false_iff_ne]; omega
    rw [decide_eq_false h]
    go_enter Try.func33, Try.ntmps33
    go_wp2_with fail
    refine H.out.mono ?_
    rintro e w1 ⟨rfl, f1⟩
    have HF := Lib.hid f1
    clear f1
    go_wp2_with fail
    go_ret
    exact ⟨rfl, HF.out⟩
theorem rsome_any (n : Int) (w : World) : Calls Try.prog 37 #[.int .i64 n] w fun e w' => e = .returned (.bool (someB n)) ∧ w' = w := by
  by_cases g0 : n ≥ 0
  · by_cases g1 : n ≤ 1000000000000
    · rw [show someB n = true from decide_eq_true ⟨g0, g1⟩]
      go_enter Try.func37, Try.ntmps37
      go_wp2_with fail
      go_ret
      exact ⟨rfl, rfl⟩
    · rw [show someB n = false from decide_eq_false (fun q => g1 q.2)]
      go_enter Try.func37, Try.ntmps37
      go_wp2_with fail
      go_ret
      exact ⟨rfl, rfl⟩
  · rw [show someB n = false from decide_eq_false (fun q => g0 q.1)]
    go_enter Try.func37, Try.ntmps37
    go_wp2_with fail
    go_ret
    exact ⟨rfl, rfl⟩
theorem rday_any (n : Int) (w : World) : Calls Try.prog 35 #[.int .i64 n] w fun e w' => e = .returned (.bool (dayB n)) ∧ w' = w := by
  by_cases g0 : n ≥ 0
  · by_cases g1 : n ≤ 1000000
    · rw [show dayB n = true from decide_eq_true ⟨g0, g1⟩]
      go_enter Try.func35, Try.ntmps35
      go_wp2_with fail
      go_ret
      exact ⟨rfl, rfl⟩
    · rw [show dayB n = false from decide_eq_false (fun q => g1 q.2)]
      go_enter Try.func35, Try.ntmps35
      go_wp2_with fail
      go_ret
      exact ⟨rfl, rfl⟩
  · rw [show dayB n = false from decide_eq_false (fun q => g0 q.1)]
    go_enter Try.func35, Try.ntmps35
    go_wp2_with fail
    go_ret
    exact ⟨rfl, rfl⟩
set_option maxRecDepth 100000 in
theorem rwith_any (n : Nat) (hn : u64B n) (s : Int) (k : Nat) (hk : u64B k) (w : World) : Calls Try.prog 54 #[.int .u64 (n : Nat), .int .i64 s, .int .u64 (k : Nat)] w fun e w' => e = .returned (.bool (withB n s k)) ∧ Fr (fun _ => False) w w' := by
  unfold u64B at hk
  by_cases h9 : s = 9
  · have b9 : (s == 9) = true := by rw [beq_iff_eq]; exact h9
    have HP := Lib.hid (rparts_any n hn)
    obtain ⟨c, hc⟩ : ∃ c, c = carN n := ⟨_, rfl⟩
    have hc9 : c ≤ 999 := by
      rw [hc]
      by_cases h : chkE n = 0
      · exact (mkN_of h).2.1
      · unfold carN
        rw [if_neg h]
        omega
    have e : withB n s k = decide (101 ≤ k ∧ k ≤ 1000 ∧ k ≠ c + 1) := by rw [hc]; unfold withB; rw [if_pos h9]
    rw [← hc] at HP
    rw [e]
    clear e hc h9
    by_cases g0 : 101 ≤ k
    · have g0i : (k : Int) ≥ 101 := by omega
      by_cases g1 : k ≤ 1000
      · have g1i : (k : Int) ≤ 1000 := by omega
        have hw1 : wrap64 (k : Int) = (k : Int) := wrap64_id (by omega) (by omega)
        have hw2 : wrap64 ((c : Int) + 1) = (c : Int) + 1 := wrap64_id (by omega) (by omega)
        by_cases g2 : k = c + 1
        · have g2i : ((k : Int) != (c : Int) + 1) = false := by rw [bne_eq_false_iff_eq]; omega
          rw [decide_eq_false (fun q => q.2.2 g2)]
          go_enter Try.func54, Try.ntmps54
          go_wp2_with fail
          refine (HP.out _).mono ?_
          rintro e w1 ⟨rfl, f1⟩
          have HF := Lib.hid f1
          clear f1
          go_wp2_with fail
          go_ret
          exact ⟨rfl, HF.out⟩
        · have g2i : ((k : Int) != (c : Int) + 1) = true := by rw [bne_iff_ne]; omega
          rw [decide_eq_true ⟨g0, g1, g2⟩]
          go_enter Try.func54, Try.ntmps54
          go_wp2_with fail
          refine (HP.out _).mono ?_
          rintro e w1 ⟨rfl, f1⟩
          have HF := Lib.hid f1
          clear f1
          go_wp2_with fail
          go_ret
          exact ⟨rfl, HF.out⟩
      · have g1i : ¬ (k : Int) ≤ 1000 := by omega
        rw [decide_eq_false (fun q => g1 q.2.1)]
        go_enter Try.func54, Try.ntmps54
        go_wp2_with fail
        refine (HP.out _).mono ?_
        rintro e w1 ⟨rfl, f1⟩
        have HF := Lib.hid f1
        clear f1
        go_wp2_with fail
        go_ret
        exact ⟨rfl, HF.out⟩
    · have g0i : ¬ (k : Int) ≥ 101 := by omega
      rw [decide_eq_false (fun q => g0 q.1)]
      go_enter Try.func54, Try.ntmps54
      go_wp2_with fail
      refine (HP.out _).mono ?_
      rintro e w1 ⟨rfl, f1⟩
      have HF := Lib.hid f1
      clear f1
      go_wp2_with fail
      go_ret
      exact ⟨rfl, HF.out⟩
  · have b9 : (s == 9) = false := by rw [beq_eq_false_iff_ne]; exact h9
    by_cases h5 : s = 5
    · have b5 : (s == 5) = true := by rw [beq_iff_eq]; exact h5
      have HP := Lib.hid (rnumb_any k hk)
      have e : withB n s k = (numB k && decide (k ≠ n)) := by unfold withB; rw [if_neg h9, if_pos h5]
      rw [e]
      clear e h5 h9
      cases hq : numB k with
      | false =>
        rw [hq] at HP
        rw [Bool.false_and]
        clear hq
        go_enter Try.func54, Try.ntmps54
        go_wp2_with fail
        refine (HP.out _).mono ?_
        rintro e w1 ⟨rfl, f1⟩
        have HF := Lib.hid f1
        clear f1
        go_wp2_with fail
        go_ret
        exact ⟨rfl, HF.out⟩
      | true =>
        rw [hq] at HP
        rw [Bool.true_and]
        clear hq
        by_cases g : k = n
        · have gi : ((k : Int) != (n : Int)) = false := by rw [bne_eq_false_iff_eq]; omega
          rw [decide_eq_false (fun q => q g)]
          clear g
          go_enter Try.func54, Try.ntmps54
          go_wp2_with fail
          refine (HP.out _).mono ?_
          rintro e w1 ⟨rfl, f1⟩
          have HF := Lib.hid f1
          clear f1
          go_wp2_with fail
          go_ret
          exact ⟨rfl, HF.out⟩
        · have gi : ((k : Int) != (n : Int)) = true := by rw [bne_iff_ne]; omega
          rw [decide_eq_true g]
          clear g
          go_enter Try.func54, Try.ntmps54
          go_wp2_with fail
          refine (HP.out _).mono ?_
          rintro e w1 ⟨rfl, f1⟩
          have HF := Lib.hid f1
          clear f1
          go_wp2_with fail
          go_ret
          exact ⟨rfl, HF.out⟩
    · have b5 : (s == 5) = false := by rw [beq_eq_false_iff_ne]; exact h5
      have e : withB n s k = decide (k = 0) := by unfold withB; rw [if_neg h9, if_neg h5]
      rw [e]
      clear e h5 h9
      by_cases g : k = 0
      · have gi : ((k : Int) == 0) = true := by rw [beq_iff_eq]; omega
        rw [decide_eq_true g]
        go_enter Try.func54, Try.ntmps54
        go_wp2_with fail
        go_ret
        exact ⟨rfl, Fr.refl _ _⟩
      · have gi : ((k : Int) == 0) = false := by rw [beq_eq_false_iff_ne]; omega
        rw [decide_eq_false g]
        go_enter Try.func54, Try.ntmps54
        go_wp2_with fail
        go_ret
        exact ⟨rfl, Fr.refl _ _⟩
theorem wrapU_nat {z : Int} (h0 : 0 ≤ z) (h1 : z ≤ 9223372036854775807) : IntKind.u64.wrap z = ((z.toNat : Nat) : Int) := by
  simp [IntKind.wrap, IntKind.signed, IntKind.bits]
  omega
set_option maxRecDepth 100000 in
set_option maxHeartbeats 1000000 in
theorem rmaycp_any (n : Nat) (hn : u64B n) (c : CpD) (hc : CpOk c) (w : World) : Calls Try.prog 36 #[.int .u64 (n : Nat), .agg (cpC c).toArray] w fun e w' => e = .returned (.bool (cpB n c)) ∧ Fr (fun _ => False) w w' := by
  obtain ⟨fl, dy, va, st, ho, nx⟩ := c
  have HO : ho ≤ 9223372036854775807 := hc.ho.2
  have hcnx : u64B nx := hc.nx
  show Calls Try.prog 36 #[.int .u64 (n : Nat), .agg #[.int .i64 fl, .int .i64 dy, .int .i64 va, .int .i64 st, .int .i64 ho, .int .u64 (nx : Nat)]] w _
  have HFB : Hid (Fr (fun _ => False) w (w.alloc (.cells #[.int .i64 fl, .int .i64 dy, .int .i64 va, .int .i64 st, .int .i64 ho, .int .u64 (nx : Nat)] 49))) := Lib.hid ((Fr.refl _ w).alloc _)
  have HD := Lib.hid (rday_any dy)
  have HS := Lib.hid (rsome_any va)
  have HM := Lib.hid (rmays_any st)
  by_cases g0 : 1 ≤ fl
  · have g0i : ¬ fl < 1 := by omega
    by_cases g1 : fl ≤ 9999
    · have g1i : ¬ 9999 < fl := by omega
      cases g2 : dayB dy with
      | false =>
        rw [g2] at HD
        rw [show cpB n ⟨fl, dy, va, st, ho, nx⟩ = false from by unfold cpB; simp [g2]]
        clear g0 g1 g2 hn hc hcnx
        go_enter Try.func36, Try.ntmps36
        go_wp2_with fail
        refine (HD.out _).mono ?_
        rintro e w' ⟨rfl, rfl⟩
        go_wp2_with fail
        go_ret
        exact ⟨rfl, HFB.out⟩
      | true =>
        rw [g2] at HD
        cases g3 : someB va with
        | false =>
          rw [g3] at HS
          rw [show cpB n ⟨fl, dy, va, st, ho, nx⟩ = false from by unfold cpB; simp [g3]]
          clear g0 g1 g2 g3 hn hc hcnx
          go_enter Try.func36, Try.ntmps36
          go_wp2_with fail
          refine (HD.out _).mono ?_
          rintro e w' ⟨rfl, rfl⟩
          go_wp2_with fail
          refine (HS.out _).mono ?_
          rintro e w' ⟨rfl, rfl⟩
          go_wp2_with fail
          go_ret
          exact ⟨rfl, HFB.out⟩
        | true =>
          rw [g3] at HS
          cases g4 : mayS st with
          | false =>
            rw [g4] at HM
            rw [show cpB n ⟨fl, dy, va, st, ho, nx⟩ = false from by unfold cpB; simp [g4]]
            clear g0 g1 g2 g3 g4 hn hc hcnx
            go_enter Try.func36, Try.ntmps36
            go_wp2_with fail
            refine (HD.out _).mono ?_
            rintro e w' ⟨rfl, rfl⟩
            go_wp2_with fail
            refine (HS.out _).mono ?_
            rintro e w' ⟨rfl, rfl⟩
            go_wp2_with fail
            refine (HM.out _).mono ?_
            rintro e w' ⟨rfl, rfl⟩
            go_wp2_with fail
            go_ret
            exact ⟨rfl, HFB.out⟩
          | true =>
            rw [g4] at HM
            by_cases g5 : 0 ≤ ho
            · have g5i : ¬ ho < 0 := by omega
              by_cases h9 : st = 9
              · have b9 : (st != 9) = false := by rw [bne_eq_false_iff_eq]; exact h9
                have b9e : (st == 9) = true := by rw [beq_iff_eq]; exact h9
                have b5 : (st != 5) = true := by rw [bne_iff_ne]; omega
                by_cases gn : nx = 0
                · have gni : ((nx : Int) != 0) = false := by rw [bne_eq_false_iff_eq]; omega
                  obtain ⟨hz, rfl⟩ : ∃ k : Nat, ho = k := ⟨ho.toNat, by omega⟩
                  have hcv : IntKind.u64.wrap (hz : Int) = (hz : Int) := by rw [wrapU_nat (by omega) (by omega)]; omega
                  have HW := Lib.hid (rwith_any n hn 9 hz (by unfold u64B; omega))
                  rw [show cpB n ⟨fl, dy, va, st, (hz : Int), nx⟩ = withB n 9 hz from by unfold cpB; simp [g0, g1, g2, g3, g4, g5, h9, gn, show mayS 9 = true from rfl]]
                  clear h9 gn g0 g1 g2 g3 g4 g5 hn hc hcnx
                  go_enter Try.func36, Try.ntmps36
                  go_wp2_with fail
                  refine (HD.out _).mono ?_
                  rintro e w' ⟨rfl, rfl⟩
                  go_wp2_with fail
                  refine (HS.out _).mono ?_
                  rintro e w' ⟨rfl, rfl⟩
                  go_wp2_with fail
                  refine (HM.out _).mono ?_
                  rintro e w' ⟨rfl, rfl⟩
                  go_wp2_with fail
                  refine (HW.out _).mono ?_
                  rintro e w1 ⟨rfl, f1⟩
                  have HF := Lib.hid f1
                  clear f1
                  go_wp2_with fail
                  go_ret
                  exact ⟨rfl, HFB.out.trans HF.out (fun _ _ q => q)⟩
                · have gni : ((nx : Int) != 0) = true := by rw [bne_iff_ne]; omega
                  rw [show cpB n ⟨fl, dy, va, st, ho, nx⟩ = false from by unfold cpB; simp [g2, g3, g4, h9, gn]]
                  clear h9 gn g0 g1 g2 g3 g4 g5 hn hc hcnx
                  go_enter Try.func36, Try.ntmps36
                  go_wp2_with fail
                  refine (HD.out _).mono ?_
                  rintro e w' ⟨rfl, rfl⟩
                  go_wp2_with fail
                  refine (HS.out _).mono ?_
                  rintro e w' ⟨rfl, rfl⟩
                  go_wp2_with fail
                  refine (HM.out _).mono ?_
                  rintro e w' ⟨rfl, rfl⟩
                  go_wp2_with fail
                  go_ret
                  exact ⟨rfl, HFB.out⟩
              · have b9 : (st != 9) = true := by rw [bne_iff_ne]; exact h9
                have b9e : (st == 9) = false := by rw [beq_eq_false_iff_ne]; exact h9
                by_cases gh : ho = 0
                · have ghi : (ho != 0) = false := by rw [bne_eq_false_iff_eq]; exact gh
                  by_cases h5 : st = 5
                  · have b5 : (st != 5) = false := by rw [bne_eq_false_iff_eq]; exact h5
                    have HW := Lib.hid (rwith_any n hn st nx hcnx)
                    rw [show cpB n ⟨fl, dy, va, st, ho, nx⟩ = withB n st nx from by unfold cpB; simp [g0, g1, g2, g3, g4, g5, h9, gh, show mayS 5 = true from rfl, h5]]
                    clear h9 gh g0 g1 g2 g3 g4 g5 hn hc hcnx h5
                    go_enter Try.func36, Try.ntmps36
                    go_wp2_with fail
                    refine (HD.out _).mono ?_
                    rintro e w' ⟨rfl, rfl⟩
                    go_wp2_with fail
                    refine (HS.out _).mono ?_
                    rintro e w' ⟨rfl, rfl⟩
                    go_wp2_with fail
                    refine (HM.out _).mono ?_
                    rintro e w' ⟨rfl, rfl⟩
                    go_wp2_with fail
                    refine (HW.out _).mono ?_
                    rintro e w1 ⟨rfl, f1⟩
                    have HF := Lib.hid f1
                    clear f1
                    go_wp2_with fail
                    go_ret
                    exact ⟨rfl, HFB.out.trans HF.out (fun _ _ q => q)⟩
                  · have b5 : (st != 5) = true := by rw [bne_iff_ne]; exact h5
                    by_cases gn : nx = 0
                    · have gni : ((nx : Int) != 0) = false := by rw [bne_eq_false_iff_eq]; omega
                      have HW := Lib.hid (rwith_any n hn st nx hcnx)
                      rw [show cpB n ⟨fl, dy, va, st, ho, nx⟩ = withB n st nx from by unfold cpB; simp [g0, g1, g2, g3, g4, g5, h9, gh, show mayS 5 = true from rfl, h5, gn]]
                      clear h9 gh g0 g1 g2 g3 g4 g5 hn hc hcnx h5 gn
                      go_enter Try.func36, Try.ntmps36
                      go_wp2_with fail
                      refine (HD.out _).mono ?_
                      rintro e w' ⟨rfl, rfl⟩
                      go_wp2_with fail
                      refine (HS.out _).mono ?_
                      rintro e w' ⟨rfl, rfl⟩
                      go_wp2_with fail
                      refine (HM.out _).mono ?_
                      rintro e w' ⟨rfl, rfl⟩
                      go_wp2_with fail
                      refine (HW.out _).mono ?_
                      rintro e w1 ⟨rfl, f1⟩
                      have HF := Lib.hid f1
                      clear f1
                      go_wp2_with fail
                      go_ret
                      exact ⟨rfl, HFB.out.trans HF.out (fun _ _ q => q)⟩
                    · have gni : ((nx : Int) != 0) = true := by rw [bne_iff_ne]; omega
                      rw [show cpB n ⟨fl, dy, va, st, ho, nx⟩ = false from by unfold cpB; simp [g2, g3, g4, h5, h9, gn]]
                      clear h9 gh g0 g1 g2 g3 g4 g5 hn hc hcnx h5 gn
                      go_enter Try.func36, Try.ntmps36
                      go_wp2_with fail
                      refine (HD.out _).mono ?_
                      rintro e w' ⟨rfl, rfl⟩
                      go_wp2_with fail
                      refine (HS.out _).mono ?_
                      rintro e w' ⟨rfl, rfl⟩
                      go_wp2_with fail
                      refine (HM.out _).mono ?_
                      rintro e w' ⟨rfl, rfl⟩
                      go_wp2_with fail
                      go_ret
                      exact ⟨rfl, HFB.out⟩
                · have ghi : (ho != 0) = true := by rw [bne_iff_ne]; exact gh
                  rw [show cpB n ⟨fl, dy, va, st, ho, nx⟩ = false from by unfold cpB; simp [g2, g3, g4, h9, gh]]
                  clear h9 gh g0 g1 g2 g3 g4 g5 hn hc hcnx
                  go_enter Try.func36, Try.ntmps36
                  go_wp2_with fail
                  refine (HD.out _).mono ?_
                  rintro e w' ⟨rfl, rfl⟩
                  go_wp2_with fail
                  refine (HS.out _).mono ?_
                  rintro e w' ⟨rfl, rfl⟩
                  go_wp2_with fail
                  refine (HM.out _).mono ?_
                  rintro e w' ⟨rfl, rfl⟩
                  go_wp2_with fail
                  go_ret
                  exact ⟨rfl, HFB.out⟩
            · have g5i : ho < 0 := by omega
              rw [show cpB n ⟨fl, dy, va, st, ho, nx⟩ = false from by unfold cpB; simp [g5]]
              clear g0 g1 g2 g3 g4 g5 hn hc hcnx
              go_enter Try.func36, Try.ntmps36
              go_wp2_with fail
              refine (HD.out _).mono ?_
              rintro e w' ⟨rfl, rfl⟩
              go_wp2_with fail
              refine (HS.out _).mono ?_
              rintro e w' ⟨rfl, rfl⟩
              go_wp2_with fail
              refine (HM.out _).mono ?_
              rintro e w' ⟨rfl, rfl⟩
              go_wp2_with fail
              go_ret
              exact ⟨rfl, HFB.out⟩
    · have g1i : 9999 < fl := by omega
      rw [show cpB n ⟨fl, dy, va, st, ho, nx⟩ = false from by unfold cpB; simp [g1]]
      clear g0 g1 hn hc hcnx
      go_enter Try.func36, Try.ntmps36
      go_wp2_with fail
      go_ret
      exact ⟨rfl, HFB.out⟩
  · have g0i : fl < 1 := by omega
    rw [show cpB n ⟨fl, dy, va, st, ho, nx⟩ = false from by unfold cpB; simp [g0]]
    clear g0 hn hc hcnx
    go_enter Try.func36, Try.ntmps36
    go_wp2_with fail
    go_ret
    exact ⟨rfl, HFB.out⟩
end Go.Proofs.Ytmopkfjnjbimnaa
