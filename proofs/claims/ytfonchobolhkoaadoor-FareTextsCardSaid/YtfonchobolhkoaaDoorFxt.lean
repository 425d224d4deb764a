/- Text of the landed code. -/
import Derived.Test.YtfonchobolhkoaaDoorFsm
import Derived.Test.YtfonchobolhkoaaDoorLpf
import Derived.Lib.AppendIntMem
namespace Go.Proofs.YtfonchobolhkoaaDoor
open Go.RowKit

theorem dec_txt (u : Nat) : Lib.decDigits u = txt u := by
  induction u using Nat.strongRecOn with
  | ind n ih =>
    rw [Lib.decDigits, txt]
    split
    · rfl
    · rw [ih (n / 10) (by omega)]
theorem Vok.here {w : World} (h : Vok w) : Lib.TabIs Tryd.prog w "internal/strconv.uint64pow10" .u64 Lib.pow10Tab := (h w (Fr.refl _ _)).1
theorem fmt_any (n : Nat) (hn : n ≤ 9223372036854775807) {w : World} (hv : Vok w) : Calls Tryd.prog 31 #[.int .i64 (n : Nat), .int .i64 10] w fun e w' => ∃ s : ByteArray, e = .returned (.string s) ∧ s.data.toList = txt n ∧ Fr (fun _ => False) w w' := by
  refine (Any.strconv_FormatInt_10 Tryd.layFmt (n : Int) (by omega) (by omega) w hv.here).mono ?_
  rintro e w' ⟨rfl, k, os, rfl⟩
  refine ⟨_, rfl, ?_, Fr.of_below (Lib.below_grow _ _ (Nat.le_refl _) k os)⟩
  rw [Lib.itoa_nonneg, dec_txt]
theorem fms_any (n : Nat) (hn : n < 100) (w : World) : Calls Tryd.prog 31 #[.int .i64 (n : Nat), .int .i64 10] w fun e w' => e = .returned (.string ⟨(txt n).toArray⟩) ∧ w' = w := by
  have h := Any.strconv_FormatInt_10_small Tryd.layFms n hn w
  rw [dec_txt] at h
  exact h
set_option maxRecDepth 100000 in
set_option maxHeartbeats 1000000 in
theorem ptextn_any (n : Nat) (hn : n ≤ 1000000000000) {w : World} (hv : Vok w) : Calls Tryd.prog 22 #[.int .i64 n] w fun e w' => ∃ s : ByteArray, e = .returned (.string s) ∧ s.data.toList = textN n ∧ Fr (fun _ => False) w w' := by
  have HM := Lib.hid (pmay_any (n : Int))
  rw [show mayF (n : Int) = true from decide_eq_true ⟨by omega, by omega⟩] at HM
  have HS := Lib.hid (fms_any (n % 100) (by omega))
  have ew : wrap64 ((n : Int) / 100) = ((n / 100 : Nat) : Int) := by
    rw [show (n : Int) / 100 = ((n / 100 : Nat) : Int) from rfl]
    exact wrap64_id (by omega) (by omega)
  have HB : Hid (∀ W, Fr (fun _ => False) w W → Calls Tryd.prog 31 #[.int .i64 (wrap64 ((n : Int) / 100)), .int .i64 10] W fun e w' => ∃ s : ByteArray, e = .returned (.string s) ∧ s.data.toList = txt (n / 100) ∧ Fr (fun _ => False) W w') := Lib.hid (fun W f => by rw [ew]; exact fmt_any (n / 100) (by omega) (hv.keep f))
  clear ew
  obtain ⟨s1, hs1⟩ : ∃ s : ByteArray, s = ⟨(txt (n % 100)).toArray⟩ := ⟨_, rfl⟩
  rw [← hs1] at HS
  have hs1l : s1.data.toList = txt (n % 100) := by rw [hs1]
  have hn0 : ¬ (n : Int) < 0 := by omega
  have HTL := Lib.hid (txt_len 12 (n / 100) (by have : (10 : Nat) ^ (12 + 1) = 10000000000000 := rfl; omega))
  clear hs1 hv
  by_cases h10 : n % 100 < 10
  · have hsz : s1.size = 1 := by
      rw [show s1.size = s1.data.toList.length from (Array.length_toList).symm, hs1l, txt_lt _ h10]
      rfl
    have hlt : (s1.size : Int) < 2 := by omega
    have hz4 : ((⟨#[48]⟩ : ByteArray) ++ s1).size = s1.size + 1 := by
      have h1 : (⟨#[48]⟩ : ByteArray).size = 1 := rfl
      rw [ByteArray.size_append, h1]
      omega
    have HL := Lib.hid (And.intro hs1l h10)
    clear hs1l h10 hn
    go_enter Tryd.func22, Tryd.ntmps22
    go_wp2_with fail
    refine (HM.out _).mono ?_
    rintro e w1 ⟨rfl, rfl⟩
    go_wp2_with fail
    refine (HS.out _).mono ?_
    rintro e w1 ⟨rfl, rfl⟩
    go_wp2_with fail
    refine (HB.out _ (Fr.refl _ _)).mono ?_
    rintro e w2 ⟨s2, rfl, hs2, f2⟩
    have HF := Lib.hid (And.intro hs2 f2)
    have hz2 : s2.size ≤ 13 := by rw [size_list, hs2]; exact HTL.out
    have hz3 : (s2 ++ (⟨#[46]⟩ : ByteArray)).size = s2.size + 1 := by
      have h1 : (⟨#[46]⟩ : ByteArray).size = 1 := rfl
      rw [ByteArray.size_append, h1]
    clear hs2 f2
    go_wp2_with fail
    go_ret
    refine ⟨_, rfl, ?_, HF.out.2⟩
    rw [app_list, app_list, app_list, HF.out.1, HL.out.1]
    unfold textN
    rw [txt_lt _ HL.out.2]
    have e0 : n % 100 / 10 = 0 := by have := HL.out.2; omega
    have e1 : n % 100 % 10 = n % 100 := by have := HL.out.2; omega
    simp only [padL, e0, e1]
    simp
  · have hsz : s1.size = 2 := by
      rw [show s1.size = s1.data.toList.length from (Array.length_toList).symm, hs1l, txt_ge _ h10, txt_lt _ (by omega)]
      rfl
    have hlt : ¬ (s1.size : Int) < 2 := by omega
    have HL := Lib.hid (And.intro hs1l h10)
    clear hs1l h10 hn
    go_enter Tryd.func22, Tryd.ntmps22
    go_wp2_with fail
    refine (HM.out _).mono ?_
    rintro e w1 ⟨rfl, rfl⟩
    go_wp2_with fail
    refine (HS.out _).mono ?_
    rintro e w1 ⟨rfl, rfl⟩
    go_wp2_with fail
    refine (HB.out _ (Fr.refl _ _)).mono ?_
    rintro e w2 ⟨s2, rfl, hs2, f2⟩
    have HF := Lib.hid (And.intro hs2 f2)
    have hz2 : s2.size ≤ 13 := by rw [size_list, hs2]; exact HTL.out
    have hz3 : (s2 ++ (⟨#[46]⟩ : ByteArray)).size = s2.size + 1 := by
      have h1 : (⟨#[46]⟩ : ByteArray).size = 1 := rfl
      rw [ByteArray.size_append, h1]
    clear hs2 f2
    go_wp2_with fail
    go_ret
    refine ⟨_, rfl, ?_, HF.out.2⟩
    rw [app_list, app_list, HF.out.1, HL.out.1]
    unfold textN
    rw [txt_ge (n % 100) HL.out.2, txt_lt (n % 100 / 10) (by omega)]
    have e1 : n % 100 / 10 % 10 = n % 100 / 10 := by omega
    simp only [padL, e1]
    simp
set_option maxRecDepth 100000 in
set_option maxHeartbeats 1000000 in
theorem ptext_any (n : Int) (w : World) (hv : Vok w) (lo : -9223372036854775808 ≤ n) (hi : n ≤ 9223372036854775807) : Calls Tryd.prog 22 #[.int .i64 n] w fun e w' => ∃ s : ByteArray, e = .returned (.string s) ∧ s.data.toList = textR n ∧ Fr (fun _ => False) w w' := by
  by_cases hm : -1000000000000 ≤ n ∧ n ≤ 1000000000000
  · have hmt : mayF n = true := decide_eq_true hm
    have hr : textR n = textF n := by unfold textR; rw [hmt]; rfl
    rw [hr]
    unfold textF
    by_cases h0 : n < 0
    · rw [if_pos h0]
      obtain ⟨k, rfl⟩ : ∃ k : Nat, n = -(k : Int) := ⟨n.natAbs, by omega⟩
      have hk : (-(k : Int)).natAbs = k := by omega
      rw [hk]
      have HM := Lib.hid (pmay_any (-(k : Int)))
      rw [hmt] at HM
      have hneg : wrap64 (k : Int) = (k : Int) := wrap64_id (by omega) (by omega)
      have hlen : (textN k).length ≤ 16 := by
        have := txt_len 12 (k / 100) (by have : (10 : Nat) ^ (12 + 1) = 10000000000000 := rfl; omega)
        simp [textN, padL_len]
        omega
      have HTL := Lib.hid hlen
      have HT : Hid (Calls Tryd.prog 22 #[.int .i64 (wrap64 (k : Int))] w fun e w' => ∃ s : ByteArray, e = .returned (.string s) ∧ s.data.toList = textN k ∧ Fr (fun _ => False) w w') := Lib.hid (by rw [hneg]; exact ptextn_any k (by omega) hv)
      clear hm hmt hr hk lo hi hneg hv hlen
      go_enter Tryd.func22, Tryd.ntmps22
      go_wp2_with fail
      refine (HM.out _).mono ?_
      rintro e w1 ⟨rfl, rfl⟩
      go_wp2_with (go_at_call 22; refine HT.out.mono ?_; rintro e w2 ⟨s, rfl, hs, f2⟩; have hz1 : s.size ≤ 16 := by { rw [size_list, hs]; exact HTL.out }; have hz2 : ((⟨#[45]⟩ : ByteArray) ++ s).size = s.size + 1 := by { have h1 : (⟨#[45]⟩ : ByteArray).size = 1 := rfl; rw [ByteArray.size_append, h1]; omega })
      go_ret
      refine ⟨_, rfl, ?_, f2⟩
      rw [app_list, hs]
      rfl
    · rw [if_neg h0]
      obtain ⟨k, rfl⟩ : ∃ k : Nat, n = (k : Int) := ⟨n.toNat, by omega⟩
      exact ptextn_any k (by omega) hv
  · have hmt : mayF n = false := decide_eq_false hm
    have hr : textR n = [] := by unfold textR; rw [hmt]; rfl
    rw [hr]
    have HM := Lib.hid (pmay_any n)
    rw [hmt] at HM
    clear hm hmt hr lo hi hv
    go_enter Tryd.func22, Tryd.ntmps22
    go_wp2_with fail
    refine (HM.out _).mono ?_
    rintro e w1 ⟨rfl, rfl⟩
    go_wp2_with fail
    go_ret
    exact ⟨_, rfl, rfl, Fr.refl _ _⟩
end Go.Proofs.YtfonchobolhkoaaDoor
