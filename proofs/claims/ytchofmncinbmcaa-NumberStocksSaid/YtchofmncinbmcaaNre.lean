/- couponref10: text, digit, worth, Text, Make, Of, Digits, Check, Parts, Locator, MayStock, In. -/
import Derived.Test.YtchofmncinbmcaaNba
import Derived.Test.YtchofmncinbmcaaNth
namespace Go.Proofs.Ytchofmncinbmcaa
open Go.RowKit

theorem ext_list (s : ByteArray) (a b : Nat) : (s.extract a b).data.toList = (s.data.toList.take b).drop a := by
  rw [ByteArray.data_extract, Array.toList_extract, List.extract_eq_take_drop]
  rw [List.drop_take]
theorem ext_size (s : ByteArray) {a b : Nat} (h : b ≤ s.size) : (s.extract a b).size = b - a := by
  rw [ByteArray.size_extract]
  omega
theorem app_list (a b : ByteArray) : (a ++ b).data.toList = a.data.toList ++ b.data.toList := by
  rw [ByteArray.data_append]
  simp
theorem size_list (s : ByteArray) : s.size = s.data.toList.length := (Array.length_toList).symm
/-- text: so many digits. -/
theorem rpad_any (n m : Nat) (hn : n < 4611686018427387904) (hm : m ≤ 100) (w : World) : Calls Try.prog 37 #[.int .i64 n, .int .i64 m] w fun e w' => ∃ s : ByteArray, e = .returned (.string s) ∧ s.data.toList = padL n m ∧ Fr (fun _ => False) w w' := by
  have HN := Lib.hid hn
  have HM := Lib.hid hm
  clear hn
  go_enter Try.func37, Try.ntmps37
  go_wp2_with fail
  go_loopw [0, 5, 6] (fun v x i wr => ∃ (k : Nat) (j : Nat) (s : ByteArray), v = .int .i64 j ∧ x = .string s ∧ i = .int .i64 k ∧ k ≤ m ∧ Hid (j = n / 10 ^ k) ∧ Hid (s.data.toList = padL n k) ∧ Fr (fun _ => False) w wr) (fun _ _ i _ => m - (intOf i).toNat)
  case atStart => exact ⟨0, n, ⟨#[]⟩, rfl, rfl, rfl, by omega, Lib.hid (by simp), Lib.hid rfl, Fr.refl _ _⟩
  case round =>
    obtain ⟨k, j, s, rfl, rfl, rfl, hk, HJ, HS, hf⟩ := hrel
    by_cases hlt : k < m
    · have hjn : j ≤ n := by rw [HJ.out]; exact Nat.div_le_self _ _
      have hj62 : j < 4611686018427387904 := Nat.lt_of_le_of_lt hjn HN.out
      obtain ⟨c, hc⟩ : ∃ c : UInt8, c = UInt8.ofNat (48 + j % 10) := ⟨_, rfl⟩
      have hcv : (c.toNat : Int) = 48 + (j : Int) % 10 := by rw [hc, toNat_dig (j % 10) (by omega)]; omega
      have HC := Lib.hid hc
      have hc1 := conv_one wr c
      rw [hcv] at hc1
      clear hc hcv hjn
      have hki : (k : Int) < (m : Int) := by omega
      have HJ2 := Lib.hid (And.intro HJ.out HS.out)
      have hsz : s.size ≤ 100 := by rw [size_list, HS.out, padL_len]; omega
      clear HJ HS
      go_wp2_with fail
      refine ⟨⟨k + 1, j / 10, _, by norm_cast, rfl, by norm_cast, by omega, Lib.hid ?_, Lib.hid ?_, hf.alloc _⟩, ?_⟩
      · rw [HJ2.out.1, Nat.pow_succ, Nat.div_div_eq_div_mul]
      · rw [str_app, HC.out, HJ2.out.2, padL_cons, HJ2.out.1]
      · simp only [intOf]
        omega
    · obtain rfl : k = m := by omega
      clear hlt
      go_wp2_with fail
      go_ret
      exact ⟨s, rfl, HS.out, hf⟩
set_option maxHeartbeats 1000000 in
theorem rdigits_any (n : Nat) (hn : n < 18446744073709551616) (w : World) :
    Calls Try.prog 20 #[.int .u64 n] w fun e w' => ∃ s : ByteArray, e = .returned (.string s) ∧ s.data.toList = txt n ∧ Fr (fun _ => False) w w' := by
  have hst := Lib.hid (TxtAt.start n)
  have HN := Lib.hid hn
  clear hn
  go_enter Try.func20, Try.ntmps20
  go_wp2_with fail
  go_loopw [0, 3] (fun v x wr => ∃ (k : Nat) (s : ByteArray), v = .int .u64 k ∧ x = .string s ∧ k ≤ n ∧ Hid (TxtAt n k s.data.toList) ∧ Fr (fun _ => False) w wr) (fun v x _ => (intOf v).toNat + noneYet x)
  case atStart => exact ⟨n, ⟨#[]⟩, rfl, rfl, Nat.le_refl _, hst, Fr.refl _ _⟩
  case round =>
    obtain ⟨k, s, rfl, rfl, hkn, hat, hf⟩ := hrel
    have hlen := hat.out.len HN.out
    rw [Array.length_toList] at hlen
    have hsz : s.size ≤ 20 := hlen
    clear hlen
    obtain ⟨c, hc⟩ : ∃ c : UInt8, c = UInt8.ofNat (48 + k % 10) := ⟨_, rfl⟩
    have hcv : (c.toNat : Int) = 48 + (k : Int) % 10 := by rw [hc, toNat_dig (k % 10) (by omega)]; omega
    have HC := Lib.hid hc
    have hc1 := conv_one wr c
    rw [hcv] at hc1
    clear hc hcv
    have hw : IntKind.u64.wrap ((k : Int) / 10) = ((k / 10 : Nat) : Int) := by rw [wrapU]; have := HN.out; omega
    have hs1 : ((⟨#[c]⟩ : ByteArray) ++ s).size = s.size + 1 := by
      have h1 : (⟨#[c]⟩ : ByteArray).size = 1 := rfl
      rw [ByteArray.size_append, h1]
      omega
    have HS := Lib.hid hs1
    clear hs1
    by_cases hk : 0 < k
    · have hd : decide ((0 : Int) < (k : Int)) = true := by rw [decide_eq_true_eq]; omega
      have hstep := Lib.hid (hat.out.step (.inl hk))
      go_wp2_with fail
      refine ⟨⟨k / 10, _, rfl, rfl, by omega, Lib.hid ?_, hf.alloc _⟩, ?_⟩
      · rw [str_app, HC.out]
        exact hstep.out
      · simp only [intOf, noneYet, HS.out]
        omega
    · obtain rfl : k = 0 := by omega
      clear hk hc1
      have hc2 := conv_one wr c
      have hcv : (c.toNat : Int) = 48 := by rw [HC.out]; rfl
      rw [hcv] at hc2
      clear hcv
      by_cases h0 : s.size = 0
      · have hl : s.data.toList = [] := List.eq_nil_of_length_eq_zero (by rw [Array.length_toList]; exact h0)
        have hstep := Lib.hid (hat.out.step (.inr hl))
        have hl2 : s.toList = [] := by rw [ByteArray.toList_eq]; exact hl
        have H0 := Lib.hid h0
        clear h0 hl
        go_wp2_with fail
        refine ⟨⟨0, _, rfl, rfl, by omega, Lib.hid ?_, hf.alloc _⟩, ?_⟩
        · rw [str_app, HC.out]
          exact hstep.out
        · simp only [intOf, noneYet, HS.out, H0.out]
          omega
      · have hl : s.data.toList ≠ [] := fun h => h0 (by rw [← List.length_eq_zero_iff, Array.length_toList] at h; exact h)
        have hl2 : s.toList = [] ↔ False := by rw [ByteArray.toList_eq]; exact ⟨fun h => hl h, fun h => h.elim⟩
        have hl3 : (s.toList == []) = false := by rw [ByteArray.toList_eq, beq_eq_false_iff_ne]; exact hl
        have hl4 : s.toList.isEmpty = false := by rw [ByteArray.toList_eq, List.isEmpty_eq_false_iff]; exact hl
        have hfin : s.data.toList = txt n := by
          rcases hat.out with ⟨h, _⟩ | ⟨_, h, _⟩ | ⟨_, _, h⟩
          · omega
          · exact absurd h hl
          · exact h.symm
        have HF := Lib.hid hfin
        clear hfin hl h0 hl2
        go_wp2
        go_ret
        exact ⟨s, rfl, HF.out, hf⟩

/-- worth: what digits come to, if it is a number of 8 bytes. -/
theorem rworth_any (s : ByteArray) (hs : s.size ≤ 1000) (hd : s.data.toList.all isDig = true) (hv : dval s.data.toList < 18446744073709551616) (w : World) :
    Calls Try.prog 34 #[.string s] w fun e w' => e = .returned (.int .u64 (dval s.data.toList : Nat)) ∧ w = w' := by
  have hpre : ∀ k, dval (s.data.toList.take k) ≤ dval s.data.toList := by
    intro k
    have h := dval_app (s.data.toList.take k) (s.data.toList.drop k)
    rw [List.take_append_drop] at h
    have := Nat.le_mul_of_pos_right (dval (s.data.toList.take k)) (show 0 < 10 ^ (s.data.toList.drop k).length from Nat.pow_pos (by omega))
    omega
  obtain ⟨b, hb⟩ : ∃ b, b = dval s.data.toList := ⟨_, rfl⟩
  rw [← hb]
  have HB := Lib.hid hb
  have HV := Lib.hid hv
  have HD := Lib.hid hd
  have HP := Lib.hid hpre
  clear hb hv hd hpre
  go_enter Try.func34, Try.ntmps34
  go_wp2_with fail
  go_loop [3, 4] (fun n i => ∃ k : Nat, k ≤ s.size ∧ i = .int .i64 k ∧ n = .int .u64 (dval (s.data.toList.take k) : Nat)) (fun _ i => s.size - (intOf i).toNat)
  case atStart => exact ⟨0, by omega, rfl, rfl⟩
  case round =>
    obtain ⟨k, hk, rfl, rfl⟩ := hrel
    by_cases hlt : k < s.size
    · have hts := take_snoc s k hlt
      have hdg : isDig s[k] = true := List.all_eq_true.1 HD.out _ (List.mem_of_getElem? (get_lst s k hlt))
      have hdg' : 48 ≤ s[k].toNat ∧ s[k].toNat ≤ 57 := of_decide_eq_true hdg
      have hn := HP.out (k + 1)
      rw [hts, dval_snoc] at hn
      have hnext := dval_snoc (s.data.toList.take k) s[k]
      rw [← hts] at hnext
      have HN := Lib.hid hnext
      have hw1 : IntKind.u64.wrap ((10 : Int) * (dval (s.data.toList.take k) : Nat)) = ((dval (s.data.toList.take k) * 10 : Nat) : Int) := by rw [wrapU]; have := HV.out; omega
      have hw2 : IntKind.u8.wrap ((s[k].toNat : Int) - 48) = ((s[k].toNat - 48 : Nat) : Int) := by
        have : IntKind.u8.wrap ((s[k].toNat : Int) - 48) = ((s[k].toNat : Int) - 48) % 256 := by simp [IntKind.wrap, IntKind.signed, IntKind.bits]
        rw [this]; omega
      have Hn := Lib.hid (Nat.lt_of_le_of_lt hn HV.out)
      clear hts hnext hdg hn
      obtain ⟨hdg1, hdg2⟩ := hdg'
      generalize hx : dval (s.data.toList.take k) = x at *
      go_wp2_with fail
      refine ⟨⟨k + 1, by omega, by go_num, congrArg (Value.int .u64) ?_⟩, by simp [intOf]; omega⟩
      rw [HN.out, wrapU]
      have := Hn.out
      omega
    · have hta := take_all s k hlt
      have hfin : dval (s.data.toList.take k) = b := by rw [hta, HB.out]
      rw [hfin]
      clear hta hfin
      go_wp2_with fail
      go_ret
      exact ⟨rfl, rfl⟩

/-- digit: twelve digits, modulo 7. -/
theorem rdigit_any (s : ByteArray) (hs : s.size ≤ 1000) (hd : s.data.toList.all isDig = true) (w : World) : Calls Try.prog 38 #[.string s] w fun e w' => e = .returned (.int .u8 ((UInt8.ofNat (48 + dval s.data.toList % 7)).toNat : Int)) ∧ w = w' := by
  rw [toNat_dig _ (by omega)]
  obtain ⟨b, hb⟩ : ∃ b, b = dval s.data.toList % 7 := ⟨_, rfl⟩
  rw [← hb]
  have HB := Lib.hid hb
  have HD := Lib.hid hd
  have hb7 : b < 7 := by omega
  clear hb hd
  go_enter Try.func38, Try.ntmps38
  go_wp2_with fail
  go_loop [3, 4] (fun n i => ∃ k x : Nat, k ≤ s.size ∧ i = .int .i64 k ∧ n = .int .i64 x ∧ x < 7 ∧ Hid (x = dval (s.data.toList.take k) % 7)) (fun _ i => s.size - (intOf i).toNat)
  case atStart => exact ⟨0, 0, by omega, rfl, rfl, by omega, Lib.hid rfl⟩
  case round =>
    obtain ⟨k, x, hk, rfl, rfl, hx7, HX⟩ := hrel
    by_cases hlt : k < s.size
    · have hdg : isDig s[k] = true := List.all_eq_true.1 HD.out _ (List.mem_of_getElem? (get_lst s k hlt))
      obtain ⟨hdg1, hdg2⟩ : 48 ≤ s[k].toNat ∧ s[k].toNat ≤ 57 := of_decide_eq_true hdg
      have hw2 : IntKind.u8.wrap ((s[k].toNat : Int) - 48) = ((s[k].toNat - 48 : Nat) : Int) := by
        have : IntKind.u8.wrap ((s[k].toNat : Int) - 48) = ((s[k].toNat : Int) - 48) % 256 := by simp [IntKind.wrap, IntKind.signed, IntKind.bits]
        rw [this]; omega
      have hnx : Hid ((10 * x + (s[k].toNat - 48)) % 7 = dval (s.data.toList.take (k + 1)) % 7) := Lib.hid (by
        rw [take_snoc s k hlt, dval_snoc, HX.out]
        omega)
      clear hdg HX
      generalize hy : s[k].toNat - 48 = y at *
      have hy9 : y ≤ 9 := by omega
      go_wp2_with fail
      refine ⟨⟨k + 1, (10 * x + y) % 7, by omega, by go_num, by norm_cast, by omega, hnx⟩, by simp [intOf]; omega⟩
    · have hta := take_all s k hlt
      have hfin : x = b := by rw [HX.out, hta, HB.out]
      subst hfin
      clear hta HX HB
      go_wp2_with fail
      go_ret
      refine ⟨?_, rfl⟩
      congr 2 <;> omega
theorem rmayc_any (c : Int) (w : World) : Calls Try.prog 33 #[.int .i64 c] w fun e w' => e = .returned (.bool (mayC c)) ∧ w = w' := by
  obtain ⟨b, hb⟩ : ∃ b, b = mayC c := ⟨_, rfl⟩
  rw [← hb]
  by_cases h1 : 100 ≤ c
  · by_cases h2 : c ≤ 999
    · have e : b = true := by rw [hb]; unfold mayC; rw [decide_eq_true_eq]; omega
      subst e
      clear hb
      go_enter Try.func33, Try.ntmps33
      go_wp2_with fail
      go_ret
      exact ⟨rfl, rfl⟩
    · have e : b = false := by rw [hb]; unfold mayC; rw [decide_eq_false_iff_not]; omega
      subst e
      clear hb
      go_enter Try.func33, Try.ntmps33
      go_wp2_with fail
      go_ret
      exact ⟨rfl, rfl⟩
  · have e : b = false := by rw [hb]; unfold mayC; rw [decide_eq_false_iff_not]; omega
    subst e
    clear hb
    go_enter Try.func33, Try.ntmps33
    go_wp2_with fail
    go_ret
    exact ⟨rfl, rfl⟩
/-- Text: of a carrier and a serial. -/
theorem rtext_any {c s : Nat} (hc : c ≤ 999) (hs : s ≤ 999999999) (w : World) : Calls Try.prog 16 #[.int .i64 c, .int .i64 s] w fun e w' => ∃ t : ByteArray, e = .returned (.string t) ∧ t.data.toList = textL c s ∧ Fr (fun _ => False) w w' := by
  have H1 := Lib.hid (rpad_any c 3 (by omega) (by omega) w)
  have H2 := Lib.hid (fun W => rpad_any s 9 (by omega) (by omega) W)
  clear hc hs
  go_enter Try.func16, Try.ntmps16
  go_wp2_with fail
  refine H1.out.mono ?_
  rintro e w1 ⟨s1, rfl, h1, f1⟩
  have HA := Lib.hid (And.intro h1 f1)
  clear h1 f1 H1
  go_wp2_with fail
  refine (H2.out w1).mono ?_
  rintro e w2 ⟨s2, rfl, h2, f2⟩
  obtain ⟨t, ht⟩ : ∃ t, s1 ++ s2 = t := ⟨_, rfl⟩
  have htl : t.data.toList = padL c 3 ++ padL s 9 := by rw [← ht, app_list, HA.out.1, h2]
  have htz : t.size = 12 := by rw [size_list, htl, List.length_append, padL_len, padL_len]
  obtain ⟨cd, hcd⟩ : ∃ cd : UInt8, cd = UInt8.ofNat (48 + dval t.data.toList % 7) := ⟨_, rfl⟩
  have HDG := Lib.hid (rdigit_any t (by omega) (by rw [htl, List.all_append, padL_dig, padL_dig]; rfl) w2)
  rw [← hcd] at HDG
  have hc1 := conv_one w2 cd
  have HB := Lib.hid (And.intro htl (And.intro hcd (HA.out.2.trans f2 (fun _ _ q => q))))
  have hs1 : s1.size = 3 := by rw [size_list, HA.out.1, padL_len]
  have hs2 : s2.size = 9 := by rw [size_list, h2, padL_len]
  clear h2 f2 H2 hcd htl
  go_wp2_with fail
  refine HDG.out.mono ?_
  rintro e w3 ⟨rfl, rfl⟩
  clear HDG
  go_wp2_with fail
  go_ret
  refine ⟨_, rfl, ?_, HB.out.2.2.alloc _⟩
  rw [app_list, HB.out.1, HB.out.2.1, HB.out.1]
  rfl
theorem rmake_any (c s : Int) (w : World) : Calls Try.prog 10 #[.int .i64 c, .int .i64 s] w fun e w' => e = .returned (.tuple #[.int .u64 (makeN c s : Nat), .bool (mayCS c s)]) ∧ Fr (fun _ => False) w w' := by
  unfold makeN
  have HC := Lib.hid (rmayc_any c w)
  obtain ⟨b, hb⟩ : ∃ b, b = mayC c := ⟨_, rfl⟩
  rw [← hb] at HC
  have HB := Lib.hid hb
  clear hb
  by_cases hm : mayCS c s = true
  · rw [if_pos hm, hm]
    unfold mayCS at hm
    rw [decide_eq_true_eq] at hm
    obtain ⟨c', rfl⟩ : ∃ c' : Nat, c = c' := ⟨c.toNat, by omega⟩
    obtain ⟨s', rfl⟩ : ∃ s' : Nat, s = s' := ⟨s.toNat, by omega⟩
    have e : b = true := by rw [HB.out]; unfold mayC; rw [decide_eq_true_eq]; omega
    subst e
    have hf := textL_facts (c := c') (s := s') (by omega) (by omega) (by omega)
    have HT := Lib.hid (rtext_any (c := c') (s := s') (by omega) (by omega) w)
    have h1 : ¬ (s' : Int) < 0 := by omega
    have h2 : ¬ (999999999 : Int) < (s' : Int) := by omega
    have hlt := mkN_lt (c := c') (s := s') (by omega) (by omega) (by omega)
    obtain ⟨x, hx⟩ : ∃ x, x = mkN c' s' := ⟨_, rfl⟩
    rw [Int.toNat_natCast, Int.toNat_natCast, ← hx]
    have HF := Lib.hid (And.intro hf (And.intro hlt hx))
    clear hm hf hlt hx
    go_enter Try.func10, Try.ntmps10
    go_wp2_with fail
    refine HC.out.mono ?_
    rintro e w1 ⟨rfl, rfl⟩
    clear HC
    go_wp2_with fail
    refine HT.out.mono ?_
    rintro e w2 ⟨t, rfl, ht, f⟩
    have HW := Lib.hid (rworth_any t (by rw [size_list, ht, HF.out.1.1]; omega) (by rw [ht]; exact HF.out.1.2.1) (by rw [ht, HF.out.1.2.2.2]; have := HF.out.2.1.2; omega) w2)
    rw [ht, HF.out.1.2.2.2, ← HF.out.2.2] at HW
    have HR := Lib.hid f
    clear ht f HT
    go_wp2_with fail
    refine HW.out.mono ?_
    rintro e w3 ⟨rfl, rfl⟩
    go_wp2_with fail
    go_ret2
    exact ⟨rfl, HR.out⟩
  · rw [if_neg hm]
    rw [Bool.not_eq_true] at hm
    rw [hm]
    unfold mayCS at hm
    rw [decide_eq_false_iff_not] at hm
    cases b with
    | false =>
      clear hm
      go_enter Try.func10, Try.ntmps10
      go_wp2_with fail
      refine HC.out.mono ?_
      rintro e w1 ⟨rfl, rfl⟩
      go_wp2_with fail
      go_ret2
      exact ⟨rfl, Fr.refl _ _⟩
    | true =>
      have hb := HB.out
      unfold mayC at hb
      have hb2 := of_decide_eq_true hb.symm
      by_cases h1 : s < 0
      · clear hm hb hb2
        go_enter Try.func10, Try.ntmps10
        go_wp2_with fail
        refine HC.out.mono ?_
        rintro e w1 ⟨rfl, rfl⟩
        go_wp2_with fail
        go_ret2
        exact ⟨rfl, Fr.refl _ _⟩
      · have h2 : (999999999 : Int) < s := by omega
        clear hm hb hb2
        go_enter Try.func10, Try.ntmps10
        go_wp2_with fail
        refine HC.out.mono ?_
        rintro e w1 ⟨rfl, rfl⟩
        go_wp2_with fail
        go_ret2
        exact ⟨rfl, Fr.refl _ _⟩
theorem drop_last (s : ByteArray) (h : s.size = 13) (h12 : 12 < s.size) : s.data.toList.drop 12 = [s[12]] := by
  have hl : s.data.toList.length = 13 := by rw [← size_list]; exact h
  have h1 := List.drop_eq_getElem_cons (l := s.data.toList) (i := 12) (by omega)
  rw [h1, List.drop_eq_nil_of_le (by omega)]
  rfl
theorem head_at (s : ByteArray) (h : 0 < s.size) : s.data.toList.head? = some s[0] := by
  rw [List.head?_eq_getElem?]
  exact get_lst s 0 h
theorem rof_any (s : ByteArray) (hs : s.size ≤ 1000) (w : World) : Calls Try.prog 21 #[.string s] w fun e w' => e = .returned (.tuple #[.int .u64 (ofN s.data.toList : Nat), .int .i64 (ofE s.data.toList : Nat)]) ∧ Fr (fun _ => False) w w' := by
  obtain ⟨x, hx⟩ : ∃ x, x = ofN s.data.toList := ⟨_, rfl⟩
  obtain ⟨y, hy⟩ : ∃ y, y = ofE s.data.toList := ⟨_, rfl⟩
  rw [← hx, ← hy]
  have HX := Lib.hid (And.intro hx hy)
  clear hx hy
  by_cases h13 : s.size = 13
  · have hb13 : ((s.size : Int) != 13) = false := by rw [bne_eq_false_iff_eq]; omega
    go_enter Try.func21, Try.ntmps21
    go_wp2_with fail
    go_loop [4] (fun i => ∃ k : Nat, k ≤ 13 ∧ i = .int .i64 k ∧ Hid ((s.data.toList.take k).all isDig = true)) (fun i => 13 - (intOf i).toNat)
    case atStart => exact ⟨0, by omega, rfl, rfl⟩
    case round =>
      obtain ⟨k, hk, rfl, hall⟩ := hrel
      by_cases hlt : k < 13
      · have hks : k < s.size := by omega
        have hts := Lib.hid (take_snoc s k hks)
        have hki : (k : Int) < 13 := by omega
        by_cases hdig : 48 ≤ s[k].toNat ∧ s[k].toNat ≤ 57
        · obtain ⟨hd1, hd2⟩ := hdig
          have hd3 : decide ((s[k].toNat : Int) < 48) = false := by rw [decide_eq_false_iff_not]; omega
          have hd4 : decide (57 < (s[k].toNat : Int)) = false := by rw [decide_eq_false_iff_not]; omega
          go_wp2_with fail
          refine ⟨⟨k + 1, by omega, by go_num, Lib.hid ?_⟩, by simp [intOf]; omega⟩
          rw [hts.out, List.all_append, hall.out]
          simp [isDig, hd1, hd2]
        · have hfin : y = 4 ∧ x = 0 := by
            have hd : s.data.toList.all isDig = false := by
              rw [List.all_eq_false]
              refine ⟨s[k], List.mem_of_getElem? (get_lst s k hks), ?_⟩
              simp only [isDig, decide_eq_true_eq]
              exact hdig
            have e : ofE s.data.toList = 4 := by unfold ofE; rw [if_pos (.inr hd)]
            refine ⟨by rw [HX.out.2, e], ?_⟩
            rw [HX.out.1]
            unfold ofN
            rw [e]
            rfl
          obtain ⟨rfl, rfl⟩ := hfin
          by_cases hlo : s[k].toNat < 48
          · have hd3 : decide ((s[k].toNat : Int) < 48) = true := by rw [decide_eq_true_eq]; omega
            clear hdig
            go_wp2_with fail
            go_ret2
            exact ⟨rfl, Fr.refl _ _⟩
          · have hd3 : decide ((s[k].toNat : Int) < 48) = false := by rw [decide_eq_false_iff_not]; omega
            have hd4 : decide (57 < (s[k].toNat : Int)) = true := by rw [decide_eq_true_eq]; omega
            clear hdig
            go_wp2_with fail
            go_ret2
            exact ⟨rfl, Fr.refl _ _⟩
      · obtain rfl : k = 13 := by omega
        have hd := hall.out
        rw [List.take_of_length_le (by rw [← size_list]; omega)] at hd
        have hl : s.data.toList.length = 13 := by rw [← size_list]; exact h13
        have h0 : 0 < s.size := by omega
        have h12 : 12 < s.size := by omega
        have hhd := head_at s h0
        have hdl := drop_last s h13 h12
        have hE : ofE s.data.toList = if s[0] = 48 then 2 else if dval (s.data.toList.take 12) % 7 ≠ s[12].toNat - 48 then 11 else 0 := by
          unfold ofE
          have e1 : dval [s[12]] = s[12].toNat - 48 := by simp [dval]
          rw [if_neg (by rw [hd, hl]; simp), hhd, hdl, e1]
          simp only [Option.some.injEq]
        have h12d : isDig s[12] = true := List.all_eq_true.1 hd _ (List.mem_of_getElem? (get_lst s 12 h12))
        have h12' : 48 ≤ s[12].toNat ∧ s[12].toNat ≤ 57 := of_decide_eq_true h12d
        clear hlt hall hhd hdl h12d
        by_cases hz : s[0] = 48
        · have e0 : ((s[0].toNat : Int) == 48) = true := by rw [hz]; rfl
          have e : ofE s.data.toList = 2 := by rw [hE, if_pos hz]
          obtain rfl : y = 2 := by rw [HX.out.2, e]
          obtain rfl : x = 0 := by rw [HX.out.1]; unfold ofN; rw [e]; rfl
          clear hE e hd hl h12' hz
          go_wp2_with fail
          go_ret2
          exact ⟨rfl, Fr.refl _ _⟩
        · have e0 : ((s[0].toNat : Int) == 48) = false := by
            rw [beq_eq_false_iff_ne]
            intro q
            exact hz (UInt8.toNat_inj.1 (by show s[0].toNat = 48; omega))
          rw [if_neg hz] at hE
          obtain ⟨t, ht⟩ : ∃ t, s.extract 0 12 = t := ⟨_, rfl⟩
          have htl : t.data.toList = s.data.toList.take 12 := by rw [← ht, ext_list]; rfl
          have htz : t.size = 12 := by rw [size_list, htl, List.length_take, hl]; rfl
          have htd : t.data.toList.all isDig = true := by
            rw [htl, List.all_eq_true]
            exact fun z hz => List.all_eq_true.1 hd z (List.mem_of_mem_take hz)
          obtain ⟨cd, hcd⟩ : ∃ cd : Nat, cd = dval (s.data.toList.take 12) % 7 := ⟨_, rfl⟩
          have hcd7 : cd < 7 := by omega
          have HDG := Lib.hid (fun W => rdigit_any t (by omega) htd W)
          obtain ⟨cu, hcu⟩ : ∃ cu : UInt8, cu = UInt8.ofNat (48 + cd) := ⟨_, rfl⟩
          have hcun : cu.toNat = 48 + cd := by rw [hcu]; exact toNat_dig _ (by omega)
          simp only [htl, ← hcd, ← hcu] at HDG
          rw [← hcd] at hE
          have HW := Lib.hid (fun W => rworth_any s (by omega) hd (by have := dval_lt s.data.toList hd; rw [hl] at this; have : (10 : Nat) ^ 13 = 10000000000000 := rfl; omega) W)
          have HE := Lib.hid hE
          obtain ⟨z, hz12⟩ : ∃ z, z = s[12].toNat := ⟨_, rfl⟩
          rw [← hz12] at h12' HE
          by_cases hc : cd = z - 48
          · have e12 : ((cu.toNat : Int) != (z : Int)) = false := by rw [bne_eq_false_iff_eq]; omega
            have e : ofE s.data.toList = 0 := by rw [HE.out, if_neg (fun q => q hc)]
            obtain rfl : y = 0 := by rw [HX.out.2, e]
            have hx : x = dval s.data.toList := by rw [HX.out.1]; unfold ofN; rw [e]; rfl
            simp only [← hx] at HW
            rw [hz12] at e12
            clear hE htl htd hcd hcu hcun hz hd hl e hx hc h12' HE
            go_wp2_with fail
            (try simp only [Act.put, List.setIfInBounds_toArray, List.set_cons_zero, List.set_cons_succ])
            refine wp_region_held_drew (S := fun w' => Fr (fun _ => False) w w') (by kernel_rfl) ((Fr.refl (fun _ => False) w).drew) (fun hS0 => ?_)
            refine anyH_take 0 25 (.string s) rfl rfl (by kernel_rfl) (by kernel_rfl) (by kernel_rfl) (fun _ _ _ h => h) (.inl ⟨by rfl, fun w'' hS => by go_simp⟩) hS0 ?_
            (simp only [List.setIfInBounds_toArray, List.set_cons_zero, List.set_cons_succ])
            refine anyH_take 1 26 (.string t) rfl rfl (by kernel_rfl) (by kernel_rfl) (by kernel_rfl) (fun _ _ _ h => h) (.inl ⟨by rfl, fun w'' hS => by go_simp⟩) hS0 ?_
            (simp only [List.setIfInBounds_toArray, List.set_cons_zero, List.set_cons_succ])
            refine anyH_take 3 28 (.string s) rfl rfl (by kernel_rfl) (by kernel_rfl) (by kernel_rfl) (fun _ _ _ h => h) (.inl ⟨by rfl, fun w'' hS => by go_simp⟩) hS0 ?_
            (simp only [List.setIfInBounds_toArray, List.set_cons_zero, List.set_cons_succ])
            refine anyH_take 4 29 (.int .u8 (s[12].toNat : Int)) rfl rfl (by kernel_rfl) (by kernel_rfl) (by kernel_rfl) (fun _ _ _ h => h) (.inl ⟨by rfl, fun w'' hS => by go_simp⟩) hS0 ?_
            (simp only [List.setIfInBounds_toArray, List.set_cons_zero, List.set_cons_succ])
            refine anyH_enter 2 27 (f := 38) (args := #[.string t]) (by kernel_rfl) rfl rfl (by rfl) (by go_simp) ?_
            refine (HDG.out w.drew).mono ?_
            rintro en wa ⟨rfl, rfl⟩
            refine ⟨_, rfl, hS0, ?_⟩
            (simp only [List.setIfInBounds_toArray, List.set_cons_zero, List.set_cons_succ])
            refine anyH_take 5 30 (.bool false) rfl rfl (by kernel_rfl) (by kernel_rfl) (by kernel_rfl) (fun _ _ _ h => h) (.inl ⟨by rfl, fun w'' hS => by go_simp⟩) hS0 ?_
            (simp only [List.setIfInBounds_toArray, List.set_cons_zero, List.set_cons_succ])
            refine wpAnyH_done (by kernel_rfl) ?_ _
            have HSF := Lib.hid hS0
            clear hS0
            go_wp2_with fail
            refine (HW.out _).mono ?_
            rintro e w4 ⟨rfl, rfl⟩
            go_wp2_with fail
            go_ret2
            exact ⟨rfl, HSF.out⟩
          · have e12 : ((cu.toNat : Int) != (z : Int)) = true := by rw [bne_iff_ne]; omega
            have e : ofE s.data.toList = 11 := by rw [HE.out, if_pos hc]
            obtain rfl : y = 11 := by rw [HX.out.2, e]
            obtain rfl : x = 0 := by rw [HX.out.1]; unfold ofN; rw [e]; rfl
            rw [hz12] at e12
            clear hE htl htd hcd hcu hcun hz hd hl e hc h12' HE HW
            go_wp2_with fail
            (try simp only [Act.put, List.setIfInBounds_toArray, List.set_cons_zero, List.set_cons_succ])
            refine wp_region_held_drew (S := fun w' => Fr (fun _ => False) w w') (by kernel_rfl) ((Fr.refl (fun _ => False) w).drew) (fun hS0 => ?_)
            refine anyH_take 0 25 (.string s) rfl rfl (by kernel_rfl) (by kernel_rfl) (by kernel_rfl) (fun _ _ _ h => h) (.inl ⟨by rfl, fun w'' hS => by go_simp⟩) hS0 ?_
            (simp only [List.setIfInBounds_toArray, List.set_cons_zero, List.set_cons_succ])
            refine anyH_take 1 26 (.string t) rfl rfl (by kernel_rfl) (by kernel_rfl) (by kernel_rfl) (fun _ _ _ h => h) (.inl ⟨by rfl, fun w'' hS => by go_simp⟩) hS0 ?_
            (simp only [List.setIfInBounds_toArray, List.set_cons_zero, List.set_cons_succ])
            refine anyH_take 3 28 (.string s) rfl rfl (by kernel_rfl) (by kernel_rfl) (by kernel_rfl) (fun _ _ _ h => h) (.inl ⟨by rfl, fun w'' hS => by go_simp⟩) hS0 ?_
            (simp only [List.setIfInBounds_toArray, List.set_cons_zero, List.set_cons_succ])
            refine anyH_take 4 29 (.int .u8 (s[12].toNat : Int)) rfl rfl (by kernel_rfl) (by kernel_rfl) (by kernel_rfl) (fun _ _ _ h => h) (.inl ⟨by rfl, fun w'' hS => by go_simp⟩) hS0 ?_
            (simp only [List.setIfInBounds_toArray, List.set_cons_zero, List.set_cons_succ])
            refine anyH_enter 2 27 (f := 38) (args := #[.string t]) (by kernel_rfl) rfl rfl (by rfl) (by go_simp) ?_
            refine (HDG.out w.drew).mono ?_
            rintro en wa ⟨rfl, rfl⟩
            refine ⟨_, rfl, hS0, ?_⟩
            (simp only [List.setIfInBounds_toArray, List.set_cons_zero, List.set_cons_succ])
            refine anyH_take 5 30 (.bool true) rfl rfl (by kernel_rfl) (by kernel_rfl) (by kernel_rfl) (fun _ _ _ h => h) (.inl ⟨by rfl, fun w'' hS => by go_simp⟩) hS0 ?_
            (simp only [List.setIfInBounds_toArray, List.set_cons_zero, List.set_cons_succ])
            refine wpAnyH_done (by kernel_rfl) ?_ _
            have HSF := Lib.hid hS0
            clear hS0
            go_wp2_with fail
            go_ret2
            exact ⟨rfl, HSF.out⟩
  · have hb13 : ((s.size : Int) != 13) = true := by rw [bne_iff_ne]; omega
    have e : ofE s.data.toList = 4 := by unfold ofE; rw [if_pos (.inl (by rw [← size_list]; exact h13))]
    obtain rfl : y = 4 := by rw [HX.out.2, e]
    obtain rfl : x = 0 := by rw [HX.out.1]; unfold ofN; rw [e]; rfl
    clear e h13
    go_enter Try.func21, Try.ntmps21
    go_wp2_with fail
    go_ret2
    exact ⟨rfl, Fr.refl _ _⟩
/-- Check. -/
theorem rcheck_any (n : Nat) (hn : n < 18446744073709551616) (w : World) : Calls Try.prog 19 #[.int .u64 n] w fun e w' => e = .returned (.int .i64 (chkE n : Nat)) ∧ Fr (fun _ => False) w w' := by
  have HD := Lib.hid (rdigits_any n hn w)
  have hl := txt_len_le 19 n (by omega)
  obtain ⟨y, hy⟩ : ∃ y, y = ofE (txt n) := ⟨_, rfl⟩
  obtain ⟨v, hv⟩ : ∃ v, v = chkE n := ⟨_, rfl⟩
  have hc := chk_txt n
  rw [← hy, ← hv] at hc
  rw [← hv]
  have HL := Lib.hid (And.intro hl hy)
  clear hl hy hv hn
  go_enter Try.func19, Try.ntmps19
  go_wp2_with fail
  refine HD.out.mono ?_
  rintro e w1 ⟨s, rfl, hs, f⟩
  have HO := Lib.hid (rof_any s (by rw [size_list, hs]; have := HL.out.1; omega) w1)
  rw [hs, ← HL.out.2] at HO
  have HF := Lib.hid f
  clear hs f HD
  by_cases h4 : y = 4
  · subst h4
    rw [if_pos rfl] at hc
    subst hc
    go_wp2_with fail
    refine HO.out.mono ?_
    rintro e w2 ⟨rfl, f2⟩
    have HG := Lib.hid (HF.out.trans f2 (fun _ _ q => q))
    clear f2
    go_wp2_with fail
    go_ret
    exact ⟨rfl, HG.out⟩
  · rw [if_neg h4] at hc
    subst hc
    have hb : ((y : Int) != 4) = true := by rw [bne_iff_ne]; omega
    go_wp2_with fail
    refine HO.out.mono ?_
    rintro e w2 ⟨rfl, f2⟩
    have HG := Lib.hid (HF.out.trans f2 (fun _ _ q => q))
    clear f2
    go_wp2_with fail
    go_ret
    exact ⟨rfl, HG.out⟩
theorem chk_len {n : Nat} (h : chkE n = 0) : (txt n).length = 13 ∧ dval ((txt n).take 3) = carN n ∧ dval (((txt n).take 12).drop 3) = serN n := by
  have hn : ¬ (n < 1000000000000 ∨ 9999999999999 < n) := fun q => by unfold chkE at h; rw [if_pos q] at h; cases h
  have hl1 := txt_len_le 12 n (by have : (10 : Nat) ^ 13 = 10000000000000 := rfl; omega)
  have hl2 := txt_len_ge 12 n (by have : (10 : Nat) ^ 12 = 1000000000000 := rfl; omega)
  have hl : (txt n).length = 13 := by omega
  obtain ⟨hd, hv, _⟩ := txt_digs n
  have h3 := (dval_cut (txt n) 3 hd).1
  have h12 := (dval_cut (txt n) 12 hd).1
  have hd12 : ((txt n).take 12).all isDig = true := by
    rw [List.all_eq_true] at hd ⊢
    exact fun x hx => hd x (List.mem_of_mem_take hx)
  have hs := (dval_cut ((txt n).take 12) 3 hd12).2
  have hl12 : ((txt n).take 12).length = 12 := by rw [List.length_take, hl]; rfl
  rw [hl, hv] at h3 h12
  rw [hl12, h12] at hs
  refine ⟨hl, ?_, ?_⟩
  · rw [h3]
    unfold carN
    rw [if_pos h]
  · rw [hs]
    unfold serN
    rw [if_pos h]
/-- Parts. -/
theorem rparts_any (n : Nat) (hn : n < 18446744073709551616) (w : World) : Calls Try.prog 18 #[.int .u64 n] w fun e w' => e = .returned (.tuple #[.int .i64 (carN n : Nat), .int .i64 (serN n : Nat)]) ∧ Fr (fun _ => False) w w' := by
  have HC := Lib.hid (rcheck_any n hn w)
  have HD := Lib.hid (fun W => rdigits_any n hn W)
  by_cases h : chkE n = 0
  · have hf := chk_len h
    have hp := mkN_of h
    rw [h] at HC
    obtain ⟨c, hc⟩ : ∃ c, c = carN n := ⟨_, rfl⟩
    obtain ⟨s, hs⟩ : ∃ s, s = serN n := ⟨_, rfl⟩
    rw [← hc, ← hs] at hf hp ⊢
    have hc9 : c ≤ 999 := hp.2.1
    have hs9 : s ≤ 999999999 := hp.2.2.1
    have HF := Lib.hid hf
    have HDG := Lib.hid (txt_digs n).1
    clear hf hp h hc hs hn
    go_enter Try.func18, Try.ntmps18
    go_wp2_with fail
    refine HC.out.mono ?_
    rintro e w1 ⟨rfl, f1⟩
    have H1 := Lib.hid f1
    clear f1 HC
    go_wp2_with fail
    refine (HD.out w1).mono ?_
    rintro e w2 ⟨t, rfl, ht, f2⟩
    have htz : t.size = 13 := by rw [size_list, ht, HF.out.1]
    obtain ⟨t3, h3⟩ : ∃ x, t.extract 0 3 = x := ⟨_, rfl⟩
    obtain ⟨t9, h9⟩ : ∃ x, t.extract 3 12 = x := ⟨_, rfl⟩
    have h3l : t3.data.toList = (txt n).take 3 := by rw [← h3, ext_list, ht]; rfl
    have h9l : t9.data.toList = ((txt n).take 12).drop 3 := by rw [← h9, ext_list, ht]
    have hd := HDG.out
    have HW3 := Lib.hid (fun W => rworth_any t3 (by rw [size_list, h3l, List.length_take]; omega) (by rw [h3l, List.all_eq_true]; exact fun z hz => List.all_eq_true.1 hd z (List.mem_of_mem_take hz)) (by rw [h3l, HF.out.2.1]; omega) W)
    have HW9 := Lib.hid (fun W => rworth_any t9 (by rw [size_list, h9l, List.length_drop, List.length_take]; omega) (by rw [h9l, List.all_eq_true]; exact fun z hz => List.all_eq_true.1 hd z (List.mem_of_mem_take (List.mem_of_mem_drop hz))) (by rw [h9l, HF.out.2.2]; omega) W)
    simp only [h3l, HF.out.2.1] at HW3
    simp only [h9l, HF.out.2.2] at HW9
    have H2 := Lib.hid (H1.out.trans f2 (fun _ _ q => q))
    clear h3l h9l hd ht f2 HD HDG
    have hc63 : IntKind.i64.wrap (c : Int) = (c : Int) := by simp [IntKind.wrap, IntKind.signed, IntKind.bits]; omega
    have hs63 : IntKind.i64.wrap (s : Int) = (s : Int) := by simp [IntKind.wrap, IntKind.signed, IntKind.bits]; omega
    go_wp2_with fail
    (try simp only [Act.put, List.setIfInBounds_toArray, List.set_cons_zero, List.set_cons_succ])
    refine wp_region_held_drew (S := fun w' => Fr (fun _ => False) w w') (by kernel_rfl) (H2.out.drew) (fun hS0 => ?_)
    refine anyH_take 0 10 (.string t) rfl rfl (by kernel_rfl) (by kernel_rfl) (by kernel_rfl) (fun _ _ _ h => h) (.inl ⟨by rfl, fun w'' hS => by go_simp⟩) hS0 ?_
    (simp only [List.setIfInBounds_toArray, List.set_cons_zero, List.set_cons_succ])
    refine anyH_take 1 11 (.string t3) rfl rfl (by kernel_rfl) (by kernel_rfl) (by kernel_rfl) (fun _ _ _ h => h) (.inl ⟨by rfl, fun w'' hS => by go_simp⟩) hS0 ?_
    (simp only [List.setIfInBounds_toArray, List.set_cons_zero, List.set_cons_succ])
    refine anyH_take 4 14 (.string t) rfl rfl (by kernel_rfl) (by kernel_rfl) (by kernel_rfl) (fun _ _ _ h => h) (.inl ⟨by rfl, fun w'' hS => by go_simp⟩) hS0 ?_
    (simp only [List.setIfInBounds_toArray, List.set_cons_zero, List.set_cons_succ])
    refine anyH_take 5 15 (.string t9) rfl rfl (by kernel_rfl) (by kernel_rfl) (by kernel_rfl) (fun _ _ _ h => h) (.inl ⟨by rfl, fun w'' hS => by go_simp⟩) hS0 ?_
    (simp only [List.setIfInBounds_toArray, List.set_cons_zero, List.set_cons_succ])
    refine anyH_enter 2 12 (f := 34) (args := #[.string t3]) (by kernel_rfl) rfl rfl (by rfl) (by go_simp) ?_
    refine (HW3.out w2.drew).mono ?_
    rintro en wa ⟨rfl, rfl⟩
    refine ⟨_, rfl, hS0, ?_⟩
    (simp only [List.setIfInBounds_toArray, List.set_cons_zero, List.set_cons_succ])
    refine anyH_take 3 13 (.int .i64 (c : Nat)) rfl rfl (by kernel_rfl) (by kernel_rfl) (by kernel_rfl) (fun _ _ _ h => h) (.inl ⟨by rfl, fun w'' hS => by have q := hc63; go_simp⟩) hS0 ?_
    (simp only [List.setIfInBounds_toArray, List.set_cons_zero, List.set_cons_succ])
    refine anyH_enter 6 16 (f := 34) (args := #[.string t9]) (by kernel_rfl) rfl rfl (by rfl) (by go_simp) ?_
    refine (HW9.out w2.drew).mono ?_
    rintro en wb ⟨rfl, rfl⟩
    refine ⟨_, rfl, hS0, ?_⟩
    (simp only [List.setIfInBounds_toArray, List.set_cons_zero, List.set_cons_succ])
    refine anyH_take 7 17 (.int .i64 (s : Nat)) rfl rfl (by kernel_rfl) (by kernel_rfl) (by kernel_rfl) (fun _ _ _ h => h) (.inl ⟨by rfl, fun w'' hS => by have q := hs63; go_simp⟩) hS0 ?_
    (simp only [List.setIfInBounds_toArray, List.set_cons_zero, List.set_cons_succ])
    refine anyH_take 8 2 (.int .i64 (c : Nat)) rfl rfl (by kernel_rfl) (by kernel_rfl) (by kernel_rfl) (fun _ _ _ h => h) (.inl ⟨by rfl, fun w'' hS => by go_simp⟩) hS0 ?_
    (simp only [List.setIfInBounds_toArray, List.set_cons_zero, List.set_cons_succ])
    refine anyH_take 9 3 (.int .i64 (s : Nat)) rfl rfl (by kernel_rfl) (by kernel_rfl) (by kernel_rfl) (fun _ _ _ h => h) (.inl ⟨by rfl, fun w'' hS => by go_simp⟩) hS0 ?_
    (simp only [List.setIfInBounds_toArray, List.set_cons_zero, List.set_cons_succ])
    refine wpAnyH_done (by kernel_rfl) ?_ _
    have HSF := Lib.hid hS0
    clear hS0
    go_wp2_with fail
    go_ret2
    exact ⟨rfl, HSF.out⟩
  · have ec : carN n = 0 := by unfold carN; rw [if_neg h]
    have es : serN n = 0 := by unfold serN; rw [if_neg h]
    rw [ec, es]
    obtain ⟨y, hy⟩ : ∃ y, y = chkE n := ⟨_, rfl⟩
    rw [← hy] at h HC
    have hb : ((y : Int) != 0) = true := by rw [bne_iff_ne]; omega
    clear ec es hy h HD hn
    go_enter Try.func18, Try.ntmps18
    go_wp2_with fail
    refine HC.out.mono ?_
    rintro e w1 ⟨rfl, f1⟩
    go_wp2_with fail
    go_ret2
    exact ⟨rfl, f1⟩
/-- Is a byte a locator's? -/
def isLoc (c : UInt8) : Bool := decide (65 ≤ c.toNat ∧ c.toNat ≤ 90 ∨ 50 ≤ c.toNat ∧ c.toNat ≤ 57)
def locB (l : List UInt8) : Bool := l.all isLoc && decide (l.length = 6)
theorem rloc_any (s : ByteArray) (hs : s.size ≤ 1000) (w : World) : Calls Try.prog 29 #[.string s] w fun e w' => e = .returned (.bool (locB s.data.toList)) ∧ w = w' := by
  obtain ⟨b, hb⟩ : ∃ b, b = locB s.data.toList := ⟨_, rfl⟩
  rw [← hb]
  have HB := Lib.hid hb
  clear hb
  go_enter Try.func29, Try.ntmps29
  go_wp2_with fail
  go_loop [3] (fun i => ∃ k : Nat, k ≤ s.size ∧ i = .int .i64 k ∧ Hid ((s.data.toList.take k).all isLoc = true)) (fun i => s.size - (intOf i).toNat)
  case atStart => exact ⟨0, by omega, rfl, rfl⟩
  case round =>
    obtain ⟨k, hk, rfl, hall⟩ := hrel
    by_cases hlt : k < s.size
    · have hts := Lib.hid (take_snoc s k hlt)
      have hki : (k : Int) < (s.size : Int) := by omega
      have HQ : Hid (isLoc s[k] = true → (s.data.toList.take (k + 1)).all isLoc = true) := Lib.hid fun q => by rw [hts.out, List.all_append, hall.out]; simp [q]
      have HN : Hid (isLoc s[k] = false → b = false) := Lib.hid fun q => by
        rw [HB.out]
        unfold locB
        rw [Bool.and_eq_false_iff]
        refine .inl (List.all_eq_false.2 ⟨s[k], List.mem_of_getElem? (get_lst s k hlt), by rw [q]; decide⟩)
      obtain ⟨z, hz⟩ : ∃ z, z = s[k].toNat := ⟨_, rfl⟩
      have HZ : Hid (isLoc s[k] = decide (65 ≤ z ∧ z ≤ 90 ∨ 50 ≤ z ∧ z ≤ 57)) := Lib.hid (by rw [hz]; rfl)
      clear hts
      by_cases h65 : 65 ≤ z
      · by_cases h90 : z ≤ 90
        · have d1 : decide ((65 : Int) ≤ (s[k].toNat : Int)) = true := by rw [decide_eq_true_eq]; omega
          have d2 : decide ((s[k].toNat : Int) ≤ 90) = true := by rw [decide_eq_true_eq]; omega
          have H1 := Lib.hid (HQ.out (by rw [HZ.out, decide_eq_true_eq]; omega))
          clear hz h65 h90 HZ HQ HN
          go_wp2_with fail
          exact ⟨⟨k + 1, by omega, by go_num, H1⟩, by simp [intOf]; omega⟩
        · have d1 : decide ((65 : Int) ≤ (s[k].toNat : Int)) = true := by rw [decide_eq_true_eq]; omega
          have d2 : decide ((s[k].toNat : Int) ≤ 90) = false := by rw [decide_eq_false_iff_not]; omega
          have d3 : decide ((50 : Int) ≤ (s[k].toNat : Int)) = true := by rw [decide_eq_true_eq]; omega
          have d4 : decide ((s[k].toNat : Int) ≤ 57) = false := by rw [decide_eq_false_iff_not]; omega
          obtain rfl := HN.out (by rw [HZ.out, decide_eq_false_iff_not]; omega)
          clear hz h65 h90 HZ HQ HN
          go_wp2_with fail
          go_ret
          exact ⟨rfl, rfl⟩
      · have d1 : decide ((65 : Int) ≤ (s[k].toNat : Int)) = false := by rw [decide_eq_false_iff_not]; omega
        by_cases h50 : 50 ≤ z
        · have d3 : decide ((50 : Int) ≤ (s[k].toNat : Int)) = true := by rw [decide_eq_true_eq]; omega
          by_cases h57 : z ≤ 57
          · have d4 : decide ((s[k].toNat : Int) ≤ 57) = true := by rw [decide_eq_true_eq]; omega
            have H1 := Lib.hid (HQ.out (by rw [HZ.out, decide_eq_true_eq]; omega))
            clear hz h65 h50 h57 HZ HQ HN
            go_wp2_with fail
            exact ⟨⟨k + 1, by omega, by go_num, H1⟩, by simp [intOf]; omega⟩
          · have d4 : decide ((s[k].toNat : Int) ≤ 57) = false := by rw [decide_eq_false_iff_not]; omega
            obtain rfl := HN.out (by rw [HZ.out, decide_eq_false_iff_not]; omega)
            clear hz h65 h50 h57 HZ HQ HN
            go_wp2_with fail
            go_ret
            exact ⟨rfl, rfl⟩
        · have d3 : decide ((50 : Int) ≤ (s[k].toNat : Int)) = false := by rw [decide_eq_false_iff_not]; omega
          obtain rfl := HN.out (by rw [HZ.out, decide_eq_false_iff_not]; omega)
          clear hz h65 h50 HZ HQ HN
          go_wp2_with fail
          go_ret
          exact ⟨rfl, rfl⟩
    · have hta := take_all s k hlt
      have hal := hall.out
      rw [hta] at hal
      by_cases h6 : s.size = 6
      · have e : b = true := by rw [HB.out]; unfold locB; rw [hal, ← size_list, h6]; rfl
        subst e
        have hb6 : ((s.size : Int) == 6) = true := by rw [beq_iff_eq]; omega
        clear hta hal HB hall
        go_wp2_with fail
        go_ret
        exact ⟨rfl, rfl⟩
      · have e : b = false := by rw [HB.out]; unfold locB; rw [hal, ← size_list, decide_eq_false h6]; rfl
        subst e
        have hb6 : ((s.size : Int) == 6) = false := by rw [beq_eq_false_iff_ne]; omega
        clear hta hal HB hall
        go_wp2_with fail
        go_ret
        exact ⟨rfl, rfl⟩
end Go.Proofs.Ytchofmncinbmcaa
