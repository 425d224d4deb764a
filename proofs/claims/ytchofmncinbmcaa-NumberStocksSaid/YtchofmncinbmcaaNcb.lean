/- number: mayCarrier, maySerial, checkDigit, Make, Check, Carrier, Serial. -/
import Derived.Test.YtchofmncinbmcaaNpr
namespace Go.Proofs.Ytchofmncinbmcaa
open Go.RowKit

def maySe (s : Int) : Bool := decide (0 ≤ s ∧ s ≤ 999999999)
theorem nmayc_any (c : Int) (w : World) : Calls Try.prog 30 #[.int .i64 c] w fun e w' => e = .returned (.bool (mayC c)) ∧ w = w' := by
  obtain ⟨b, hb⟩ : ∃ b, b = mayC c := ⟨_, rfl⟩
  rw [← hb]
  by_cases h1 : 100 ≤ c
  · by_cases h2 : c ≤ 999
    · have e : b = true := by rw [hb]; unfold mayC; rw [decide_eq_true_eq]; omega
      subst e
      clear hb
      go_enter Try.func30, Try.ntmps30
      go_wp2_with fail
      go_ret
      exact ⟨rfl, rfl⟩
    · have e : b = false := by rw [hb]; unfold mayC; rw [decide_eq_false_iff_not]; omega
      subst e
      clear hb
      go_enter Try.func30, Try.ntmps30
      go_wp2_with fail
      go_ret
      exact ⟨rfl, rfl⟩
  · have e : b = false := by rw [hb]; unfold mayC; rw [decide_eq_false_iff_not]; omega
    subst e
    clear hb
    go_enter Try.func30, Try.ntmps30
    go_wp2_with fail
    go_ret
    exact ⟨rfl, rfl⟩
theorem nmays_any (c : Int) (w : World) : Calls Try.prog 31 #[.int .i64 c] w fun e w' => e = .returned (.bool (maySe c)) ∧ w = w' := by
  obtain ⟨b, hb⟩ : ∃ b, b = maySe c := ⟨_, rfl⟩
  rw [← hb]
  by_cases h1 : 0 ≤ c
  · by_cases h2 : c ≤ 999999999
    · have e : b = true := by rw [hb]; unfold maySe; rw [decide_eq_true_eq]; omega
      subst e
      clear hb
      go_enter Try.func31, Try.ntmps31
      go_wp2_with fail
      go_ret
      exact ⟨rfl, rfl⟩
    · have e : b = false := by rw [hb]; unfold maySe; rw [decide_eq_false_iff_not]; omega
      subst e
      clear hb
      go_enter Try.func31, Try.ntmps31
      go_wp2_with fail
      go_ret
      exact ⟨rfl, rfl⟩
  · have e : b = false := by rw [hb]; unfold maySe; rw [decide_eq_false_iff_not]; omega
    subst e
    clear hb
    go_enter Try.func31, Try.ntmps31
    go_wp2_with fail
    go_ret
    exact ⟨rfl, rfl⟩
theorem ndigit_any (n : Nat) (hn : n < 18446744073709551616) (w : World) : Calls Try.prog 32 #[.int .u64 n] w fun e w' => e = .returned (.int .u64 (n % 7 : Nat)) ∧ w = w' := by
  have hw : IntKind.u64.wrap ((n : Int) % 7) = ((n % 7 : Nat) : Int) := by rw [wrapU]; omega
  go_enter Try.func32, Try.ntmps32
  go_wp2_with fail
  go_ret
  exact ⟨by congr 2 <;> omega, rfl⟩
theorem nmake_any (c s : Int) (w : World) : Calls Try.prog 9 #[.int .i64 c, .int .i64 s] w fun e w' => e = .returned (.tuple #[.int .u64 (makeN c s : Nat), .int .i64 (makeE c s)]) ∧ w = w' := by
  have HC := Lib.hid (nmayc_any c w)
  have HS := Lib.hid (nmays_any s w)
  by_cases h1 : mayC c = true
  · rw [h1] at HC
    by_cases h2 : maySe s = true
    · rw [h2] at HS
      have h1' := of_decide_eq_true h1
      have h2' := of_decide_eq_true h2
      have hm : mayCS c s = true := by unfold mayCS; rw [decide_eq_true_eq]; omega
      unfold makeN makeE
      rw [if_pos hm, if_pos hm]
      obtain ⟨c', rfl⟩ : ∃ c' : Nat, c = c' := ⟨c.toNat, by omega⟩
      obtain ⟨s', rfl⟩ : ∃ s' : Nat, s = s' := ⟨s.toNat, by omega⟩
      rw [Int.toNat_natCast, Int.toNat_natCast]
      obtain ⟨p, hp⟩ : ∃ p : Nat, p = c' * 1000000000 + s' := ⟨_, rfl⟩
      obtain ⟨x, hx⟩ : ∃ x : Nat, x = mkN c' s' := ⟨_, rfl⟩
      have hxp : x = p * 10 + p % 7 := by rw [hx, hp]; rfl
      rw [← hx]
      have hw0 : IntKind.u64.wrap (c' : Int) = (c' : Int) := by rw [wrapU]; omega
      have hw0' : IntKind.u64.wrap (s' : Int) = (s' : Int) := by rw [wrapU]; omega
      have hw1 : IntKind.u64.wrap ((c' : Int) * 1000000000) = (c' : Int) * 1000000000 := by rw [wrapU]; omega
      have hw2 : IntKind.u64.wrap ((c' : Int) * 1000000000 + (s' : Int)) = (p : Int) := by rw [wrapU]; omega
      have hw3 : IntKind.u64.wrap ((p : Int) * 10) = (p : Int) * 10 := by rw [wrapU]; omega
      have hw4 : IntKind.u64.wrap ((p : Int) * 10 + ((p % 7 : Nat) : Int)) = (x : Int) := by rw [wrapU]; omega
      have HD := Lib.hid (ndigit_any p (by omega) w)
      have hp10 : p < 1000000000000 := by omega
      have HX := Lib.hid hxp
      clear hm hx hxp h1 h2 hp
      go_enter Try.func9, Try.ntmps9
      go_wp2_with fail
      refine HC.out.mono ?_
      rintro e w1 ⟨rfl, rfl⟩
      go_wp2_with fail
      refine HS.out.mono ?_
      rintro e w2 ⟨rfl, rfl⟩
      go_wp2_with fail
      refine HD.out.mono ?_
      rintro e w3 ⟨rfl, rfl⟩
      go_wp2_with fail
      go_ret2
      have hx2 : ((x : Nat) : Int) = (p : Int) * 10 + (p : Int) % 7 := by rw [HX.out]; omega
      exact ⟨by rw [hx2]; rfl, rfl⟩
    · have hm : ¬ mayCS c s = true := by
        intro q
        apply h2
        have := of_decide_eq_true q
        unfold maySe
        rw [decide_eq_true_eq]
        omega
      unfold makeN makeE
      rw [if_neg hm, if_neg hm]
      rw [Bool.not_eq_true] at h2
      rw [h2] at HS
      clear hm h1 h2
      go_enter Try.func9, Try.ntmps9
      go_wp2_with fail
      refine HC.out.mono ?_
      rintro e w1 ⟨rfl, rfl⟩
      go_wp2_with fail
      refine HS.out.mono ?_
      rintro e w2 ⟨rfl, rfl⟩
      go_wp2_with fail
      go_ret2
      exact ⟨rfl, rfl⟩
  · have hm : ¬ mayCS c s = true := by
      intro q
      apply h1
      have := of_decide_eq_true q
      unfold mayC
      rw [decide_eq_true_eq]
      omega
    unfold makeN makeE
    rw [if_neg hm, if_neg hm]
    rw [Bool.not_eq_true] at h1
    rw [h1] at HC
    clear hm h1
    go_enter Try.func9, Try.ntmps9
    go_wp2_with fail
    refine HC.out.mono ?_
    rintro e w1 ⟨rfl, rfl⟩
    go_wp2_with fail
    go_ret2
    exact ⟨rfl, rfl⟩
theorem ncheck_any (n : Nat) (hn : n < 18446744073709551616) (w : World) : Calls Try.prog 12 #[.int .u64 n] w fun e w' => e = .returned (.int .i64 (chkE n : Nat)) ∧ w = w' := by
  obtain ⟨v, hv⟩ : ∃ v, v = chkE n := ⟨_, rfl⟩
  rw [← hv]
  unfold chkE at hv
  by_cases h1 : n < 1000000000000
  · rw [if_pos (.inl h1)] at hv
    subst hv
    have h1' : (n : Int) < 1000000000000 := by omega
    clear h1
    go_enter Try.func12, Try.ntmps12
    go_wp2_with fail
    go_ret
    exact ⟨rfl, rfl⟩
  · by_cases h2 : 9999999999999 < n
    · rw [if_pos (.inr h2)] at hv
      subst hv
      have h1' : ¬ (n : Int) < 1000000000000 := by omega
      have h2' : (9999999999999 : Int) < (n : Int) := by omega
      clear h1 h2
      go_enter Try.func12, Try.ntmps12
      go_wp2_with fail
      go_ret
      exact ⟨rfl, rfl⟩
    · rw [if_neg (by omega)] at hv
      have h1' : ¬ (n : Int) < 1000000000000 := by omega
      have h2' : ¬ (9999999999999 : Int) < (n : Int) := by omega
      have HD := Lib.hid (ndigit_any (n / 10) (by omega) w)
      have e1 : IntKind.u64.wrap ((n : Int) / 10) = ((n / 10 : Nat) : Int) := by rw [wrapU]; omega
      have e2 : IntKind.u64.wrap ((n : Int) % 10) = ((n % 10 : Nat) : Int) := by rw [wrapU]; omega
      have e3 : (n : Int) / 10 = ((n / 10 : Nat) : Int) := by omega
      have e4 : (n : Int) % 10 = ((n % 10 : Nat) : Int) := by omega
      obtain ⟨q, hq⟩ : ∃ q, q = n / 10 := ⟨_, rfl⟩
      obtain ⟨r, hr⟩ : ∃ r, r = n % 10 := ⟨_, rfl⟩
      obtain ⟨u, hu⟩ : ∃ u, u = n / 10 % 7 := ⟨_, rfl⟩
      rw [← hu, ← hr] at hv
      rw [← hu] at HD
      rw [← hq] at HD e1 e3
      rw [← hr] at e2 e4
      by_cases hd : u = r
      · rw [if_neg (fun q => q hd)] at hv
        subst hv
        have hb : ((r : Int) != (u : Int)) = false := by rw [bne_eq_false_iff_eq]; omega
        clear h1 h2 hq hr hu hd
        go_enter Try.func12, Try.ntmps12
        go_wp2_with fail
        refine HD.out.mono ?_
        rintro e w1 ⟨rfl, rfl⟩
        go_wp2_with fail
        go_ret
        exact ⟨rfl, rfl⟩
      · rw [if_pos hd] at hv
        subst hv
        have hb : ((r : Int) != (u : Int)) = true := by rw [bne_iff_ne]; omega
        clear h1 h2 hq hr hu hd
        go_enter Try.func12, Try.ntmps12
        go_wp2_with fail
        refine HD.out.mono ?_
        rintro e w1 ⟨rfl, rfl⟩
        go_wp2_with fail
        go_ret
        exact ⟨rfl, rfl⟩
theorem ncar_any (n : Nat) (hn : n < 18446744073709551616) (w : World) : Calls Try.prog 13 #[.int .u64 n] w fun e w' => e = .returned (.int .i64 (carN n : Nat)) ∧ w = w' := by
  have HC := Lib.hid (ncheck_any n hn w)
  obtain ⟨v, hv⟩ : ∃ v, v = carN n := ⟨_, rfl⟩
  rw [← hv]
  obtain ⟨u, hu⟩ : ∃ u, u = chkE n := ⟨_, rfl⟩
  rw [← hu] at HC
  unfold carN at hv
  rw [← hu] at hv
  by_cases h : u = 0
  · rw [if_pos h] at hv
    have hle : n ≤ 9999999999999 := by
      rw [h] at hu
      unfold chkE at hu
      split at hu
      · omega
      · omega
    subst h
    have e1 : (n : Int) / 10 = ((n / 10 : Nat) : Int) := by omega
    have e2 : IntKind.u64.wrap ((n : Int) / 10) = ((n / 10 : Nat) : Int) := by rw [wrapU]; omega
    have e3 : ((n / 10 : Nat) : Int) / 1000000000 = (v : Int) := by omega
    have e4 : IntKind.u64.wrap (((n / 10 : Nat) : Int) / 1000000000) = (v : Int) := by rw [wrapU]; omega
    obtain ⟨q, hq⟩ : ∃ q, q = n / 10 := ⟨_, rfl⟩
    rw [← hq] at e1 e2 e3 e4
    have hv2 : (v : Int) < 9999999999999 := by omega
    have hq2 : (q : Int) < 9999999999999 := by omega
    clear hv hq hu
    go_enter Try.func13, Try.ntmps13
    go_wp2_with fail
    refine HC.out.mono ?_
    rintro e w1 ⟨rfl, rfl⟩
    go_wp2_with fail
    go_ret
    exact ⟨by first | rfl | (congr 2 <;> omega), rfl⟩
  · rw [if_neg h] at hv
    subst hv
    have hb : ((u : Int) != 0) = true := by rw [bne_iff_ne]; omega
    clear hu h
    go_enter Try.func13, Try.ntmps13
    go_wp2_with fail
    refine HC.out.mono ?_
    rintro e w1 ⟨rfl, rfl⟩
    go_wp2_with fail
    go_ret
    exact ⟨rfl, rfl⟩
theorem nser_any (n : Nat) (hn : n < 18446744073709551616) (w : World) : Calls Try.prog 14 #[.int .u64 n] w fun e w' => e = .returned (.int .i64 (serN n : Nat)) ∧ w = w' := by
  have HC := Lib.hid (ncheck_any n hn w)
  obtain ⟨v, hv⟩ : ∃ v, v = serN n := ⟨_, rfl⟩
  rw [← hv]
  obtain ⟨u, hu⟩ : ∃ u, u = chkE n := ⟨_, rfl⟩
  rw [← hu] at HC
  unfold serN at hv
  rw [← hu] at hv
  by_cases h : u = 0
  · rw [if_pos h] at hv
    have hle : n ≤ 9999999999999 := by
      rw [h] at hu
      unfold chkE at hu
      split at hu
      · omega
      · omega
    subst h
    have e1 : (n : Int) / 10 = ((n / 10 : Nat) : Int) := by omega
    have e2 : IntKind.u64.wrap ((n : Int) / 10) = ((n / 10 : Nat) : Int) := by rw [wrapU]; omega
    have e3 : ((n / 10 : Nat) : Int) % 1000000000 = (v : Int) := by omega
    have e4 : IntKind.u64.wrap (((n / 10 : Nat) : Int) % 1000000000) = (v : Int) := by rw [wrapU]; omega
    obtain ⟨q, hq⟩ : ∃ q, q = n / 10 := ⟨_, rfl⟩
    rw [← hq] at e1 e2 e3 e4
    have hv2 : (v : Int) < 9999999999999 := by omega
    have hq2 : (q : Int) < 9999999999999 := by omega
    clear hv hq hu
    go_enter Try.func14, Try.ntmps14
    go_wp2_with fail
    refine HC.out.mono ?_
    rintro e w1 ⟨rfl, rfl⟩
    go_wp2_with fail
    go_ret
    exact ⟨by first | rfl | (congr 2 <;> omega), rfl⟩
  · rw [if_neg h] at hv
    subst hv
    have hb : ((u : Int) != 0) = true := by rw [bne_iff_ne]; omega
    clear hu h
    go_enter Try.func14, Try.ntmps14
    go_wp2_with fail
    refine HC.out.mono ?_
    rintro e w1 ⟨rfl, rfl⟩
    go_wp2_with fail
    go_ret
    exact ⟨rfl, rfl⟩
end Go.Proofs.Ytchofmncinbmcaa
