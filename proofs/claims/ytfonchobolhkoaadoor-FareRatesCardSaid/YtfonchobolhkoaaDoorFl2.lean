/- The law FareRates, of what fare's calls answer. -/
import Derived.Test.YtfonchobolhkoaaDoorFl1
namespace Go.Proofs.YtfonchobolhkoaaDoor
open Go.RowKit

set_option maxRecDepth 100000 in
set_option maxHeartbeats 4000000 in
theorem frates (P : FareP) (a r x : Int) (w : World) (hvk : Vok w) : Calls Tryd.prog 8 #[.int .i64 a, .int .i64 r, .int .i64 x] w (Tru w) := by
  have HK := Lib.hid (fun W (fk : Fr (fun _ => False) w W) => fknown P W (hvk.keep fk))
  clear hvk
  have hR := P.rate a r w
  have hT := P.take a x
  unfold rateR at hR
  unfold takeR at hT
  by_cases a1 : a < 0
  · skip
    have hre : rateE a r = 14 := by unfold rateE; rw [if_neg (by omega)]
    have hte : takeE a x = 14 := by unfold takeE; rw [if_neg (by omega)]
    rw [hre] at hR
    rw [if_neg (by omega)] at hR
    rw [hte] at hT
    rw [if_neg (by omega)] at hT
    have HR := Lib.hid hR
    have HT := Lib.hid hT
    clear hR hT hre hte
    go_enter Tryd.func8, Tryd.ntmps8
    go_wp2_with fail
    refine HR.out.mono ?_
    rintro e w1 ⟨rfl, f1⟩
    go_wp2_with fail
    refine (HT.out w1).mono ?_
    rintro e w3 ⟨rfl, f3⟩
    have HF := Lib.hid (f1.trans f3 (fun _ _ q => q))
    clear f1 f3
    go_wp2_with fail
    refine (HK.out _ HF.out).mono ?_
    rintro e w4 ⟨rfl, f4⟩
    have HF2 := Lib.hid (HF.out.trans f4 (fun _ _ q => q))
    clear f4
    go_wp2_with fail
    go_ret
    exact ⟨by first | rfl | simp, HF2.out⟩
  · by_cases a2 : 1000000000000 < a
    · skip
      have hre : rateE a r = 14 := by unfold rateE; rw [if_neg (by omega)]
      have hte : takeE a x = 14 := by unfold takeE; rw [if_neg (by omega)]
      rw [hre] at hR
      rw [if_neg (by omega)] at hR
      rw [hte] at hT
      rw [if_neg (by omega)] at hT
      have HR := Lib.hid hR
      have HT := Lib.hid hT
      clear hR hT hre hte
      go_enter Tryd.func8, Tryd.ntmps8
      go_wp2_with fail
      refine HR.out.mono ?_
      rintro e w1 ⟨rfl, f1⟩
      go_wp2_with fail
      refine (HT.out w1).mono ?_
      rintro e w3 ⟨rfl, f3⟩
      have HF := Lib.hid (f1.trans f3 (fun _ _ q => q))
      clear f1 f3
      go_wp2_with fail
      refine (HK.out _ HF.out).mono ?_
      rintro e w4 ⟨rfl, f4⟩
      have HF2 := Lib.hid (HF.out.trans f4 (fun _ _ q => q))
      clear f4
      go_wp2_with fail
      go_ret
      exact ⟨by first | rfl | simp, HF2.out⟩
    · by_cases r1 : r < 0
      · skip
        have hre : rateE a r = 5 := by unfold rateE; rw [if_pos (by omega), if_neg (by omega)]
        rw [hre] at hR
        rw [if_neg (by omega)] at hR
        have HR := Lib.hid hR
        clear hR hre
        by_cases x1 : x < 0
        · have hte : takeE a x = 14 := by unfold takeE; rw [if_neg (by omega)]
          rw [hte] at hT
          rw [if_neg (by omega)] at hT
          have HT := Lib.hid hT
          clear hT hte
          go_enter Tryd.func8, Tryd.ntmps8
          go_wp2_with fail
          refine HR.out.mono ?_
          rintro e w1 ⟨rfl, f1⟩
          go_wp2_with fail
          refine (HT.out w1).mono ?_
          rintro e w3 ⟨rfl, f3⟩
          have HF := Lib.hid (f1.trans f3 (fun _ _ q => q))
          clear f1 f3
          go_wp2_with fail
          refine (HK.out _ HF.out).mono ?_
          rintro e w4 ⟨rfl, f4⟩
          have HF2 := Lib.hid (HF.out.trans f4 (fun _ _ q => q))
          clear f4
          go_wp2_with fail
          go_ret
          exact ⟨by first | rfl | simp, HF2.out⟩
        · by_cases x2 : 1000000000000 < x
          · have hte : takeE a x = 14 := by unfold takeE; rw [if_neg (by omega)]
            rw [hte] at hT
            rw [if_neg (by omega)] at hT
            have HT := Lib.hid hT
            clear hT hte
            go_enter Tryd.func8, Tryd.ntmps8
            go_wp2_with fail
            refine HR.out.mono ?_
            rintro e w1 ⟨rfl, f1⟩
            go_wp2_with fail
            refine (HT.out w1).mono ?_
            rintro e w3 ⟨rfl, f3⟩
            have HF := Lib.hid (f1.trans f3 (fun _ _ q => q))
            clear f1 f3
            go_wp2_with fail
            refine (HK.out _ HF.out).mono ?_
            rintro e w4 ⟨rfl, f4⟩
            have HF2 := Lib.hid (HF.out.trans f4 (fun _ _ q => q))
            clear f4
            go_wp2_with fail
            go_ret
            exact ⟨by first | rfl | simp, HF2.out⟩
          · have hte : takeE a x = 0 := by unfold takeE; rw [if_pos (by omega)]
            rw [hte] at hT
            rw [if_pos rfl] at hT
            by_cases x3 : x ≤ a
            · rw [if_pos x3] at hT
              have HT := Lib.hid hT
              obtain ⟨y, hy⟩ : ∃ y, y = a - x := ⟨_, rfl⟩
              rw [show (x, a - x) = (x, y) by rw [hy]] at HT
              have hy0 : 0 ≤ y := by omega
              have hy1 : y ≤ 1000000000000 := by omega
              have hxy : (x + y == a) = true := by rw [beq_iff_eq]; omega
              have hxx : (x == x) = true := by simp
              have hx0 : 0 ≤ x := by omega
              clear hT hte hy
              go_enter Tryd.func8, Tryd.ntmps8
              go_wp2_with fail
              refine HR.out.mono ?_
              rintro e w1 ⟨rfl, f1⟩
              go_wp2_with fail
              refine (HT.out w1).mono ?_
              rintro e w3 ⟨rfl, f3⟩
              have HF := Lib.hid (f1.trans f3 (fun _ _ q => q))
              clear f1 f3
              go_wp2_with fail
              refine (HK.out _ HF.out).mono ?_
              rintro e w4 ⟨rfl, f4⟩
              have HF2 := Lib.hid (HF.out.trans f4 (fun _ _ q => q))
              clear f4
              go_wp2_with fail
              go_ret
              exact ⟨by first | rfl | simp, HF2.out⟩
            · rw [if_neg x3] at hT
              have HT := Lib.hid hT
              have hax : a ≤ x := by omega
              have haa : (a == a) = true := by simp
              have hxa : (a == x) = false := by rw [beq_eq_false_iff_ne]; omega
              clear hT hte
              go_enter Tryd.func8, Tryd.ntmps8
              go_wp2_with fail
              refine HR.out.mono ?_
              rintro e w1 ⟨rfl, f1⟩
              go_wp2_with fail
              refine (HT.out w1).mono ?_
              rintro e w3 ⟨rfl, f3⟩
              have HF := Lib.hid (f1.trans f3 (fun _ _ q => q))
              clear f1 f3
              go_wp2_with fail
              refine (HK.out _ HF.out).mono ?_
              rintro e w4 ⟨rfl, f4⟩
              have HF2 := Lib.hid (HF.out.trans f4 (fun _ _ q => q))
              clear f4
              go_wp2_with fail
              go_ret
              exact ⟨by first | rfl | simp, HF2.out⟩
      · by_cases r2 : 10000 < r
        · skip
          have hre : rateE a r = 5 := by unfold rateE; rw [if_pos (by omega), if_neg (by omega)]
          rw [hre] at hR
          rw [if_neg (by omega)] at hR
          have HR := Lib.hid hR
          clear hR hre
          by_cases x1 : x < 0
          · have hte : takeE a x = 14 := by unfold takeE; rw [if_neg (by omega)]
            rw [hte] at hT
            rw [if_neg (by omega)] at hT
            have HT := Lib.hid hT
            clear hT hte
            go_enter Tryd.func8, Tryd.ntmps8
            go_wp2_with fail
            refine HR.out.mono ?_
            rintro e w1 ⟨rfl, f1⟩
            go_wp2_with fail
            refine (HT.out w1).mono ?_
            rintro e w3 ⟨rfl, f3⟩
            have HF := Lib.hid (f1.trans f3 (fun _ _ q => q))
            clear f1 f3
            go_wp2_with fail
            refine (HK.out _ HF.out).mono ?_
            rintro e w4 ⟨rfl, f4⟩
            have HF2 := Lib.hid (HF.out.trans f4 (fun _ _ q => q))
            clear f4
            go_wp2_with fail
            go_ret
            exact ⟨by first | rfl | simp, HF2.out⟩
          · by_cases x2 : 1000000000000 < x
            · have hte : takeE a x = 14 := by unfold takeE; rw [if_neg (by omega)]
              rw [hte] at hT
              rw [if_neg (by omega)] at hT
              have HT := Lib.hid hT
              clear hT hte
              go_enter Tryd.func8, Tryd.ntmps8
              go_wp2_with fail
              refine HR.out.mono ?_
              rintro e w1 ⟨rfl, f1⟩
              go_wp2_with fail
              refine (HT.out w1).mono ?_
              rintro e w3 ⟨rfl, f3⟩
              have HF := Lib.hid (f1.trans f3 (fun _ _ q => q))
              clear f1 f3
              go_wp2_with fail
              refine (HK.out _ HF.out).mono ?_
              rintro e w4 ⟨rfl, f4⟩
              have HF2 := Lib.hid (HF.out.trans f4 (fun _ _ q => q))
              clear f4
              go_wp2_with fail
              go_ret
              exact ⟨by first | rfl | simp, HF2.out⟩
            · have hte : takeE a x = 0 := by unfold takeE; rw [if_pos (by omega)]
              rw [hte] at hT
              rw [if_pos rfl] at hT
              by_cases x3 : x ≤ a
              · rw [if_pos x3] at hT
                have HT := Lib.hid hT
                obtain ⟨y, hy⟩ : ∃ y, y = a - x := ⟨_, rfl⟩
                rw [show (x, a - x) = (x, y) by rw [hy]] at HT
                have hy0 : 0 ≤ y := by omega
                have hy1 : y ≤ 1000000000000 := by omega
                have hxy : (x + y == a) = true := by rw [beq_iff_eq]; omega
                have hxx : (x == x) = true := by simp
                have hx0 : 0 ≤ x := by omega
                clear hT hte hy
                go_enter Tryd.func8, Tryd.ntmps8
                go_wp2_with fail
                refine HR.out.mono ?_
                rintro e w1 ⟨rfl, f1⟩
                go_wp2_with fail
                refine (HT.out w1).mono ?_
                rintro e w3 ⟨rfl, f3⟩
                have HF := Lib.hid (f1.trans f3 (fun _ _ q => q))
                clear f1 f3
                go_wp2_with fail
                refine (HK.out _ HF.out).mono ?_
                rintro e w4 ⟨rfl, f4⟩
                have HF2 := Lib.hid (HF.out.trans f4 (fun _ _ q => q))
                clear f4
                go_wp2_with fail
                go_ret
                exact ⟨by first | rfl | simp, HF2.out⟩
              · rw [if_neg x3] at hT
                have HT := Lib.hid hT
                have hax : a ≤ x := by omega
                have haa : (a == a) = true := by simp
                have hxa : (a == x) = false := by rw [beq_eq_false_iff_ne]; omega
                clear hT hte
                go_enter Tryd.func8, Tryd.ntmps8
                go_wp2_with fail
                refine HR.out.mono ?_
                rintro e w1 ⟨rfl, f1⟩
                go_wp2_with fail
                refine (HT.out w1).mono ?_
                rintro e w3 ⟨rfl, f3⟩
                have HF := Lib.hid (f1.trans f3 (fun _ _ q => q))
                clear f1 f3
                go_wp2_with fail
                refine (HK.out _ HF.out).mono ?_
                rintro e w4 ⟨rfl, f4⟩
                have HF2 := Lib.hid (HF.out.trans f4 (fun _ _ q => q))
                clear f4
                go_wp2_with fail
                go_ret
                exact ⟨by first | rfl | simp, HF2.out⟩
        · have hre : rateE a r = 0 := by unfold rateE; rw [if_pos (by omega), if_pos (by omega)]
          rw [hre] at hR
          rw [if_pos rfl] at hR
          have hp := fun W => rpart_any a.toNat r.toNat 10000 (by omega) (by omega) (by omega) (by omega) W
          simp only [show ((a.toNat : Nat) : Int) = a by omega, show ((r.toNat : Nat) : Int) = r by omega] at hp
          have hq : ((a.toNat * r.toNat / 10000 : Nat) : Int) = a * r / 10000 := by
            rw [Int.natCast_ediv, Int.natCast_mul, show ((a.toNat : Nat) : Int) = a by omega, show ((r.toNat : Nat) : Int) = r by omega]
            rfl
          obtain ⟨q, hqq⟩ : ∃ q, q = a * r / 10000 := ⟨_, rfl⟩
          obtain ⟨q2, hq2⟩ : ∃ q2, q2 = a.toNat * r.toNat % 10000 := ⟨_, rfl⟩
          simp only [hq, ← hqq, ← hq2] at hp
          rw [← hqq] at hR
          have HR := Lib.hid hR
          have HPt := Lib.hid hp
          have hqe : (q != q) = false := by simp
          clear hR hre hp hq hqq hq2
          by_cases x1 : x < 0
          · have hte : takeE a x = 14 := by unfold takeE; rw [if_neg (by omega)]
            rw [hte] at hT
            rw [if_neg (by omega)] at hT
            have HT := Lib.hid hT
            clear hT hte
            go_enter Tryd.func8, Tryd.ntmps8
            go_wp2_with fail
            refine HR.out.mono ?_
            rintro e w1 ⟨rfl, f1⟩
            go_wp2_with fail
            refine (HPt.out w1).mono ?_
            rintro e w2 ⟨rfl, f2⟩
            go_wp2_with fail
            have f12 := f1.trans f2 (fun _ _ q => q)
            refine (HT.out w2).mono ?_
            rintro e w3 ⟨rfl, f3⟩
            have HF := Lib.hid (f12.trans f3 (fun _ _ q => q))
            clear f1 f2 f12 f3
            go_wp2_with fail
            refine (HK.out _ HF.out).mono ?_
            rintro e w4 ⟨rfl, f4⟩
            have HF2 := Lib.hid (HF.out.trans f4 (fun _ _ q => q))
            clear f4
            go_wp2_with fail
            go_ret
            exact ⟨by first | rfl | simp, HF2.out⟩
          · by_cases x2 : 1000000000000 < x
            · have hte : takeE a x = 14 := by unfold takeE; rw [if_neg (by omega)]
              rw [hte] at hT
              rw [if_neg (by omega)] at hT
              have HT := Lib.hid hT
              clear hT hte
              go_enter Tryd.func8, Tryd.ntmps8
              go_wp2_with fail
              refine HR.out.mono ?_
              rintro e w1 ⟨rfl, f1⟩
              go_wp2_with fail
              refine (HPt.out w1).mono ?_
              rintro e w2 ⟨rfl, f2⟩
              go_wp2_with fail
              have f12 := f1.trans f2 (fun _ _ q => q)
              refine (HT.out w2).mono ?_
              rintro e w3 ⟨rfl, f3⟩
              have HF := Lib.hid (f12.trans f3 (fun _ _ q => q))
              clear f1 f2 f12 f3
              go_wp2_with fail
              refine (HK.out _ HF.out).mono ?_
              rintro e w4 ⟨rfl, f4⟩
              have HF2 := Lib.hid (HF.out.trans f4 (fun _ _ q => q))
              clear f4
              go_wp2_with fail
              go_ret
              exact ⟨by first | rfl | simp, HF2.out⟩
            · have hte : takeE a x = 0 := by unfold takeE; rw [if_pos (by omega)]
              rw [hte] at hT
              rw [if_pos rfl] at hT
              by_cases x3 : x ≤ a
              · rw [if_pos x3] at hT
                have HT := Lib.hid hT
                obtain ⟨y, hy⟩ : ∃ y, y = a - x := ⟨_, rfl⟩
                rw [show (x, a - x) = (x, y) by rw [hy]] at HT
                have hy0 : 0 ≤ y := by omega
                have hy1 : y ≤ 1000000000000 := by omega
                have hxy : (x + y == a) = true := by rw [beq_iff_eq]; omega
                have hxx : (x == x) = true := by simp
                have hx0 : 0 ≤ x := by omega
                clear hT hte hy
                go_enter Tryd.func8, Tryd.ntmps8
                go_wp2_with fail
                refine HR.out.mono ?_
                rintro e w1 ⟨rfl, f1⟩
                go_wp2_with fail
                refine (HPt.out w1).mono ?_
                rintro e w2 ⟨rfl, f2⟩
                go_wp2_with fail
                have f12 := f1.trans f2 (fun _ _ q => q)
                refine (HT.out w2).mono ?_
                rintro e w3 ⟨rfl, f3⟩
                have HF := Lib.hid (f12.trans f3 (fun _ _ q => q))
                clear f1 f2 f12 f3
                go_wp2_with fail
                refine (HK.out _ HF.out).mono ?_
                rintro e w4 ⟨rfl, f4⟩
                have HF2 := Lib.hid (HF.out.trans f4 (fun _ _ q => q))
                clear f4
                go_wp2_with fail
                go_ret
                exact ⟨by first | rfl | simp, HF2.out⟩
              · rw [if_neg x3] at hT
                have HT := Lib.hid hT
                have hax : a ≤ x := by omega
                have haa : (a == a) = true := by simp
                have hxa : (a == x) = false := by rw [beq_eq_false_iff_ne]; omega
                clear hT hte
                go_enter Tryd.func8, Tryd.ntmps8
                go_wp2_with fail
                refine HR.out.mono ?_
                rintro e w1 ⟨rfl, f1⟩
                go_wp2_with fail
                refine (HPt.out w1).mono ?_
                rintro e w2 ⟨rfl, f2⟩
                go_wp2_with fail
                have f12 := f1.trans f2 (fun _ _ q => q)
                refine (HT.out w2).mono ?_
                rintro e w3 ⟨rfl, f3⟩
                have HF := Lib.hid (f12.trans f3 (fun _ _ q => q))
                clear f1 f2 f12 f3
                go_wp2_with fail
                refine (HK.out _ HF.out).mono ?_
                rintro e w4 ⟨rfl, f4⟩
                have HF2 := Lib.hid (HF.out.trans f4 (fun _ _ q => q))
                clear f4
                go_wp2_with fail
                go_ret
                exact ⟨by first | rfl | simp, HF2.out⟩
end Go.Proofs.YtfonchobolhkoaaDoor
