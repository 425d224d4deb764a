/- The laws of number, of what its calls answer: NumberMakes, NumberChecks. -/
import Derived.Test.YtchofmncinbmcaaNpr
namespace Go.Proofs.Ytchofmncinbmcaa
open Go.RowKit

set_option maxRecDepth 100000 in
set_option maxHeartbeats 4000000 in
theorem nmakes (P : NumP) (c s : Int) (w : World) : Calls Try.prog 3 #[.int .i64 c, .int .i64 s] w fun e w' => e = .returned (.bool true) ∧ Fr (fun _ => False) w w' := by
  have h1 := P.make c s w
  have h2 := fun W => rmake_any c s W
  by_cases hm : mayCS c s = true
  · unfold makeN makeE at h1
    unfold makeN at h2
    rw [hm] at h1
    simp only [hm] at h2
    have hm2 := hm
    unfold mayCS at hm2
    rw [decide_eq_true_eq] at hm2
    obtain ⟨c', rfl⟩ : ∃ c' : Nat, c = c' := ⟨c.toNat, by omega⟩
    obtain ⟨s', rfl⟩ : ∃ s' : Nat, s = s' := ⟨s.toNat, by omega⟩
    simp only [if_true, Int.toNat_natCast] at h1 h2
    obtain ⟨x, hx⟩ : ∃ x, x = mkN c' s' := ⟨_, rfl⟩
    have hlt := mkN_lt (c := c') (s := s') (by omega) (by omega) (by omega)
    have hpt := mkN_parts (c := c') (s := s') (by omega) (by omega) (by omega)
    have htx := textL_txt (c := c') (s := s') (by omega) (by omega) (by omega)
    rw [← hx] at h1 hlt hpt htx
    simp only [← hx] at h2
    have hof := of_txt hpt.1
    have hxm : x < 18446744073709551616 := by omega
    have H1 := Lib.hid h1
    have H2 := Lib.hid h2
    have HC := Lib.hid (fun W => P.check x W hxm)
    have HA := Lib.hid (fun W => P.carrier x W hxm)
    have HS := Lib.hid (fun W => P.serial x W hxm)
    have HT := Lib.hid (fun W => P.text x W hxm)
    rw [hpt.1] at HC
    rw [hpt.2.1] at HA
    rw [hpt.2.2] at HS
    simp only [hpt.1, if_true] at HT
    have HR := Lib.hid (fun W => rtext_any (c := c') (s := s') (by omega) (by omega) W)
    have HF := Lib.hid (And.intro htx (And.intro hof (textL_facts (c := c') (s := s') (by omega) (by omega) (by omega)).1))
    clear h1 h2 hm hm2 hx hlt hpt htx hof hxm
    go_enter Try.func3, Try.ntmps3
    go_wp2_with fail
    refine H1.out.mono ?_
    rintro e w1 ⟨rfl, f1⟩
    go_wp2_with fail
    refine (H2.out w1).mono ?_
    rintro e w2 ⟨rfl, f2⟩
    replace f2 := f1.trans f2 (fun _ _ q => q)
    clear f1 H1 H2
    go_wp2_with fail
    refine (HC.out w2).mono ?_
    rintro e w3 ⟨rfl, f3⟩
    replace f3 := f2.trans f3 (fun _ _ q => q)
    clear f2
    go_wp2_with fail
    refine (HA.out w3).mono ?_
    rintro e w4 ⟨rfl, f4⟩
    replace f4 := f3.trans f4 (fun _ _ q => q)
    clear f3
    go_wp2_with fail
    refine (HS.out w4).mono ?_
    rintro e w5 ⟨rfl, f5⟩
    replace f5 := f4.trans f5 (fun _ _ q => q)
    clear f4
    go_wp2_with fail
    refine (HT.out w5).mono ?_
    rintro e w6 ⟨t, rfl, ht, f6⟩
    replace f6 := f5.trans f6 (fun _ _ q => q)
    clear f5
    go_wp2_with fail
    refine (HR.out w6).mono ?_
    rintro e w7 ⟨u, rfl, hu, f7⟩
    replace f7 := f6.trans f7 (fun _ _ q => q)
    clear f6
    have htu : t = u := Go.WideShapes.bytes_inj (by rw [ht, hu, HF.out.1])
    subst htu
    have h8 : (t.toList != t.toList) = false := by simp
    have h9 : (t.toList == t.toList) = true := by simp
    clear ht hu HC HA HS
    go_wp2_with fail
    refine (HT.out w7).mono ?_
    rintro e w8 ⟨v, rfl, hv, f8⟩
    replace f8 := f7.trans f8 (fun _ _ q => q)
    have HO := Lib.hid (P.of_ v w8 (by rw [size_list, hv, HF.out.1, HF.out.2.2]; omega))
    rw [hv, HF.out.2.1.1, HF.out.2.1.2] at HO
    clear f7 hv h8 h9 HT HR
    go_wp2_with fail
    refine HO.out.mono ?_
    rintro e w9 ⟨rfl, f9⟩
    replace f9 := f8.trans f9 (fun _ _ q => q)
    have H9 := Lib.hid f9
    clear f8 f9 HO
    go_wp2_with fail
    refine (nknown P _).mono ?_
    rintro e wk ⟨rfl, fk⟩
    have HK := Lib.hid fk
    clear fk
    go_wp2_with fail
    go_ret
    exact ⟨rfl, H9.out.trans HK.out (fun _ _ q => q)⟩
  · rw [Bool.not_eq_true] at hm
    unfold makeN makeE at h1
    unfold makeN at h2
    simp only [hm, Bool.false_eq_true, if_false] at h1 h2
    have H1 := Lib.hid h1
    have H2 := Lib.hid h2
    clear h1 h2 hm
    go_enter Try.func3, Try.ntmps3
    go_wp2_with fail
    refine H1.out.mono ?_
    rintro e w1 ⟨rfl, f1⟩
    go_wp2_with fail
    refine (H2.out w1).mono ?_
    rintro e w2 ⟨rfl, f2⟩
    replace f2 := f1.trans f2 (fun _ _ q => q)
    have H9 := Lib.hid f2
    clear f1 f2 H1 H2
    go_wp2_with fail
    refine (nknown P _).mono ?_
    rintro e wk ⟨rfl, fk⟩
    have HK := Lib.hid fk
    clear fk
    go_wp2_with fail
    go_ret
    exact ⟨rfl, H9.out.trans HK.out (fun _ _ q => q)⟩
set_option maxRecDepth 100000 in
set_option maxHeartbeats 4000000 in
theorem nchecks (P : NumP) (n : Nat) (hn : n < 18446744073709551616) (s : ByteArray) (w : World) : Calls Try.prog 4 #[.int .u64 n, .string s] w fun e w' => e = .returned (.bool true) ∧ Fr (fun _ => False) w w' := by
  by_cases hl : 100 < s.size
  · have hl' : (100 : Int) < (s.size : Int) := by omega
    clear hn
    go_enter Try.func4, Try.ntmps4
    go_wp2_with fail
    refine (nknown P _).mono ?_
    rintro e wk ⟨rfl, fk⟩
    have HK := Lib.hid fk
    clear fk
    go_wp2_with fail
    go_ret
    exact ⟨rfl, HK.out⟩
  · have hl' : ¬ (100 : Int) < (s.size : Int) := by omega
    have HP := Lib.hid (fun W => rparts_any n hn W)
    have HC := Lib.hid (fun W => P.check n W hn)
    have HRC := Lib.hid (fun W => rcheck_any n hn W)
    have HA := Lib.hid (fun W => P.carrier n W hn)
    have HS := Lib.hid (fun W => P.serial n W hn)
    have HT := Lib.hid (fun W => P.text n W hn)
    have HD := Lib.hid (fun W => rdigits_any n hn W)
    have HO := Lib.hid (fun W => P.of_ s W (by omega))
    have HRO := Lib.hid (fun W => rof_any s (by omega) W)
    obtain ⟨y, hy⟩ : ∃ y, y = chkE n := ⟨_, rfl⟩
    simp only [← hy] at HC HRC HT
    generalize carN n = cc at *
    generalize serN n = ss at *
    generalize ofN s.data.toList = on at *
    generalize ofE s.data.toList = oe at *
    clear hn hy hl
    go_enter Try.func4, Try.ntmps4
    go_wp2_with fail
    refine (HP.out _).mono ?_
    rintro e w1 ⟨rfl, f1⟩
    go_wp2_with fail
    refine (HC.out w1).mono ?_
    rintro e w2 ⟨rfl, f2⟩
    replace f2 := f1.trans f2 (fun _ _ q => q)
    clear f1
    go_wp2_with fail
    refine (HRC.out w2).mono ?_
    rintro e w3 ⟨rfl, f3⟩
    replace f3 := f2.trans f3 (fun _ _ q => q)
    clear f2
    go_wp2_with fail
    refine (HA.out w3).mono ?_
    rintro e w4 ⟨rfl, f4⟩
    replace f4 := f3.trans f4 (fun _ _ q => q)
    clear f3
    go_wp2_with fail
    refine (HS.out w4).mono ?_
    rintro e w5 ⟨rfl, f5⟩
    replace f5 := f4.trans f5 (fun _ _ q => q)
    clear f4
    go_wp2_with fail
    refine (HT.out w5).mono ?_
    rintro e w6 ⟨t, rfl, ht, f6⟩
    replace f6 := f5.trans f6 (fun _ _ q => q)
    clear f5 HP HC HA HS HT
    go_wp2_with fail
    refine (HRC.out w6).mono ?_
    rintro e w7 ⟨rfl, f7⟩
    replace f7 := f6.trans f7 (fun _ _ q => q)
    clear f6
    by_cases hz : y = 0
    · subst hz
      rw [if_pos rfl] at ht
      go_wp2_with fail
      refine (HD.out w7).mono ?_
      rintro e w8 ⟨u, rfl, hu, f8⟩
      replace f8 := f7.trans f8 (fun _ _ q => q)
      have htu : t = u := Go.WideShapes.bytes_inj (by rw [ht, hu])
      subst htu
      have h8 : (t.toList != t.toList) = false := by simp
      have h9 : (t.toList == t.toList) = true := by simp
      clear ht hu f7 HD
      go_wp2_with fail
      refine (HRC.out w8).mono ?_
      rintro e w9 ⟨rfl, f9⟩
      replace f9 := f8.trans f9 (fun _ _ q => q)
      clear f8 HRC
      go_wp2_with fail
      refine (HO.out w9).mono ?_
      rintro e w10 ⟨rfl, f10⟩
      replace f10 := f9.trans f10 (fun _ _ q => q)
      clear f9
      go_wp2_with fail
      refine (HRO.out w10).mono ?_
      rintro e w11 ⟨rfl, f11⟩
      have H9 := Lib.hid (f10.trans f11 (fun _ _ q => q))
      clear f10 f11 HO HRO
      go_wp2_with fail
      refine (nknown P _).mono ?_
      rintro e wk ⟨rfl, fk⟩
      have HK := Lib.hid fk
      clear fk
      go_wp2_with fail
      go_ret
      exact ⟨rfl, H9.out.trans HK.out (fun _ _ q => q)⟩
    · have hy0 : ((y : Int) == 0) = false := by rw [beq_eq_false_iff_ne]; omega
      have hy1 : ((y : Int) != 0) = true := by rw [bne_iff_ne]; omega
      rw [if_neg hz] at ht
      have htn : t.toList = [] := by rw [ByteArray.toList_eq]; exact ht
      clear ht hz HD
      go_wp2_with fail
      refine (HRC.out w7).mono ?_
      rintro e w9 ⟨rfl, f9⟩
      replace f9 := f7.trans f9 (fun _ _ q => q)
      clear f7 HRC
      go_wp2_with fail
      refine (HO.out w9).mono ?_
      rintro e w10 ⟨rfl, f10⟩
      replace f10 := f9.trans f10 (fun _ _ q => q)
      clear f9
      go_wp2_with fail
      refine (HRO.out w10).mono ?_
      rintro e w11 ⟨rfl, f11⟩
      have H9 := Lib.hid (f10.trans f11 (fun _ _ q => q))
      clear f10 f11 HO HRO
      go_wp2_with fail
      refine (nknown P _).mono ?_
      rintro e wk ⟨rfl, fk⟩
      have HK := Lib.hid fk
      clear fk
      go_wp2_with fail
      go_ret
      exact ⟨rfl, H9.out.trans HK.out (fun _ _ q => q)⟩
end Go.Proofs.Ytchofmncinbmcaa
