/- couponref11: digits, Text. -/
import Derived.Test.YtfonchobolhkoaaDoorFtt
namespace Go.Proofs.YtfonchobolhkoaaDoor
open Go.RowKit

set_option maxRecDepth 100000 in
theorem app_list (a b : ByteArray) : (a ++ b).data.toList = a.data.toList ++ b.data.toList := by
  rw [ByteArray.data_append]
  simp
set_option maxRecDepth 100000 in
theorem size_list (s : ByteArray) : s.size = s.data.toList.length := (Array.length_toList).symm
/-- A text's digits, of so many at least. -/
def Digs (n least : Nat) (w : World) (e : Ending) (w' : World) : Prop := ∃ (s : ByteArray) (K : Nat), e = .returned (.string s) ∧ s.data.toList = padL n K ∧ DigsK n least K ∧ K ≤ 19 ∧ Fr (fun _ => False) w w'
set_option maxRecDepth 100000 in
set_option maxHeartbeats 1000000 in
theorem rdigs_any (n least : Nat) (hn : n < 4611686018427387904) (hl : least ≤ 2) (w : World) : Calls Tryd.prog 37 #[.int .i64 n, .int .i64 least] w (Digs n least w) := by
  have HN := Lib.hid hn
  clear hn
  go_enter Tryd.func37, Tryd.ntmps37
  go_wp2_with fail
  go_loopw [0, 5] (fun v x wr => ∃ (k j : Nat) (s : ByteArray), v = .int .i64 j ∧ x = .string s ∧ k ≤ 19 ∧ s.size = k ∧ j ≤ n ∧ Hid (j = n / 10 ^ k) ∧ Hid (s.data.toList = padL n k) ∧ Hid (k ≤ least ∨ 0 < n / 10 ^ (k - 1)) ∧ Hid (Fr (fun _ => False) w wr)) (fun v x _ => (intOf v).toNat + (least - (match x with | .string s => s.size | _ => 0)))
  case atStart => exact ⟨0, n, ⟨#[]⟩, rfl, rfl, by omega, rfl, Nat.le_refl _, Lib.hid (by simp), Lib.hid rfl, Lib.hid (.inl (Nat.zero_le _)), Lib.hid (Fr.refl _ _)⟩
  case round =>
    obtain ⟨k, j, s, rfl, rfl, hk, hsz, hjn, HJ, HS, HI, HF⟩ := hrel
    have hj62 : (j : Int) ≤ 4611686018427387904 := by have := HN.out; omega
    obtain ⟨c, hc⟩ : ∃ c : UInt8, c = UInt8.ofNat (48 + j % 10) := ⟨_, rfl⟩
    have hcv : (c.toNat : Int) = 48 + (j : Int) % 10 := by rw [hc, toNat_dig (j % 10) (by omega)]; omega
    have HC := Lib.hid hc
    have hc1 := conv_one wr c
    rw [hcv] at hc1
    have hs1 : ((⟨#[c]⟩ : ByteArray) ++ s).size = s.size + 1 := by
      have h1 : (⟨#[c]⟩ : ByteArray).size = 1 := rfl
      rw [ByteArray.size_append, h1]
      omega
    have HSZ := Lib.hid (And.intro hs1 hsz)
    have hsz2 : (s.size : Int) ≤ 19 := by omega
    have hk9 : 0 < j → k + 1 ≤ 19 := fun hj => by
      rw [HJ.out] at hj
      apply Decidable.byContradiction
      intro hne
      have h10 : 10 ^ 19 ≤ 10 ^ k := Nat.pow_le_pow_right (by omega) (by omega)
      have : n / 10 ^ k = 0 := Nat.div_eq_of_lt (by have : (10 : Nat) ^ 19 = 10000000000000000000 := rfl; have := HN.out; omega)
      omega
    have hnext : Hid (j / 10 = n / 10 ^ (k + 1)) := Lib.hid (by rw [HJ.out, Nat.pow_succ, Nat.div_div_eq_div_mul])
    have happ : Hid (((⟨#[c]⟩ : ByteArray) ++ s).data.toList = padL n (k + 1)) := Lib.hid (by rw [str_app, HC.out, HS.out, padL_cons, HJ.out])
    clear hc hcv hs1
    by_cases hj : 0 < j
    · have hji : (0 : Int) < (j : Int) := by omega
      have hp : Hid (k + 1 ≤ least ∨ 0 < n / 10 ^ (k + 1 - 1)) := Lib.hid (.inr (by rw [Nat.add_sub_cancel, ← HJ.out]; exact hj))
      have HK := Lib.hid (And.intro (hk9 hj) hj)
      clear hk9 hj hsz
      go_wp2_with fail
      refine ⟨⟨k + 1, j / 10, _, by norm_cast, rfl, HK.out.1, by rw [HSZ.out.1, HSZ.out.2], by omega, hnext, happ, hp, Lib.hid (HF.out.alloc _)⟩, ?_⟩
      simp only [intOf, HSZ.out.1]
      have := HK.out.2
      omega
    · obtain rfl : j = 0 := by omega
      by_cases hkl : k < least
      · have hkl2 : (s.size : Int) < (least : Int) := by omega
        have hkl3 : decide (s.size < least) = true := decide_eq_true (by omega)
        have hp : Hid (k + 1 ≤ least ∨ 0 < n / 10 ^ (k + 1 - 1)) := Lib.hid (.inl (by omega))
        have HK := Lib.hid (And.intro hkl hl)
        have hc2 := conv_one wr c
        have hcv : (c.toNat : Int) = 48 := by rw [HC.out]; rfl
        rw [hcv] at hc2
        clear hk9 hj hsz hkl hc1 hcv
        go_wp2_with fail
        refine ⟨⟨k + 1, 0, _, by norm_cast, rfl, by have := HK.out; omega, by rw [HSZ.out.1, HSZ.out.2], by omega, hnext, happ, hp, Lib.hid (HF.out.alloc _)⟩, ?_⟩
        simp only [intOf, HSZ.out.1]
        have := HK.out.1
        have := HSZ.out.2
        omega
      · have hkl3 : decide (s.size < least) = false := decide_eq_false (by omega)
        have HD : Hid (DigsK n least k) := Lib.hid ⟨by omega, by rw [← HJ.out], by
          rcases HI.out with q | q
          · exact .inl (by omega)
          · exact .inr q⟩
        clear hk9 hj hsz hkl
        go_wp2_with fail
        go_ret
        exact ⟨s, k, rfl, HS.out, HD.out, hk, HF.out⟩
set_option maxRecDepth 100000 in
set_option maxHeartbeats 1000000 in
theorem rtextn_any (n : Nat) (hn : n ≤ 1000000000000) (w : World) : Calls Tryd.prog 24 #[.int .i64 n] w fun e w' => ∃ s : ByteArray, e = .returned (.string s) ∧ s.data.toList = textN n ∧ Fr (fun _ => False) w w' := by
  have H1 := Lib.hid (rdigs_any (n / 100) 1 (by omega) (by omega) w)
  have H2 := Lib.hid (fun W => rdigs_any (n % 100) 2 (by omega) (by omega) W)
  have hni : (n : Int) ≤ 1000000000000 := by omega
  have hn0 : (0 : Int) ≤ (n : Int) := by omega
  obtain ⟨q, hq⟩ : ∃ q, q = n / 100 := ⟨_, rfl⟩
  obtain ⟨r, hr⟩ : ∃ r, r = n % 100 := ⟨_, rfl⟩
  have hqi : (n : Int) / 100 = (q : Int) := by omega
  have hri : (n : Int) % 100 = (r : Int) := by omega
  have hr9 : r < 100 := by omega
  rw [← hq] at H1
  rw [← hr] at H2
  have HQ := Lib.hid (And.intro hq (And.intro hr hr9))
  clear hq hr hn hr9
  go_enter Tryd.func24, Tryd.ntmps24
  go_wp2_with fail
  refine H1.out.mono ?_
  rintro e w1 ⟨s1, K1, rfl, hs1, hd1, hk1, f1⟩
  have HA := Lib.hid (And.intro hs1 (And.intro hd1 f1))
  have hz1 : s1.size ≤ 19 := by rw [size_list, hs1, padL_len]; omega
  clear hs1 hd1 f1 hk1 H1
  go_wp2_with fail
  refine (H2.out w1).mono ?_
  rintro e w2 ⟨s2, K2, rfl, hs2, hd2, hk2, f2⟩
  have HB := Lib.hid (And.intro hs2 (And.intro hd2 f2))
  have hz2 : s2.size ≤ 19 := by rw [size_list, hs2, padL_len]; omega
  clear hs2 hd2 f2 hk2 H2
  have hz3 : (s1 ++ (⟨#[46]⟩ : ByteArray)).size = s1.size + 1 := by
    have h1 : (⟨#[46]⟩ : ByteArray).size = 1 := rfl
    rw [ByteArray.size_append, h1]
  go_wp2_with fail
  go_ret
  refine ⟨_, rfl, ?_, HA.out.2.2.trans HB.out.2.2 (fun _ _ q => q)⟩
  rw [app_list, app_list, HA.out.1, HB.out.1, digs_one HA.out.2.1, digs_two HQ.out.2.2 HB.out.2.1]
  unfold textN
  rw [HQ.out.1, HQ.out.2.1]
  simp
set_option maxRecDepth 100000 in
set_option maxHeartbeats 1000000 in
theorem rtext_any (n : Int) (hn : -1000000000000 ≤ n ∧ n ≤ 1000000000000) (w : World) : Calls Tryd.prog 24 #[.int .i64 n] w fun e w' => ∃ s : ByteArray, e = .returned (.string s) ∧ s.data.toList = textF n ∧ Fr (fun _ => False) w w' := by
  by_cases h0 : n < 0
  · obtain ⟨a, ha⟩ : ∃ a : Nat, a = n.natAbs := ⟨_, rfl⟩
    have H1 := Lib.hid (rtextn_any a (by omega) w)
    have hneg : -n = (a : Int) := by omega
    have hwr : wrap64 (-n) = (a : Int) := by rw [hneg]; unfold wrap64; omega
    have hwi : IntKind.i64.wrap (-n) = (a : Int) := by rw [hneg]; simp [IntKind.wrap, IntKind.signed, IntKind.bits]; omega
    have hz : a ≤ 1000000000000 := by omega
    have hlen : (textN a).length ≤ 16 := by
      have := txt_len 12 (a / 100) (by have : (10 : Nat) ^ (12 + 1) = 10000000000000 := rfl; omega)
      simp [textN, padL_len]
      omega
    have HA := Lib.hid (And.intro ha hlen)
    have hn0 : n ≤ 0 := by omega
    have hn1 : -1000000000000 ≤ n := hn.1
    have HH := Lib.hid h0
    clear ha hlen hz hn hneg
    go_enter Tryd.func24, Tryd.ntmps24
    go_wp2_with fail
    refine H1.out.mono ?_
    rintro e w1 ⟨s, rfl, hs, f⟩
    have hsz : s.size ≤ 16 := by rw [size_list, hs]; exact HA.out.2
    have hz2 : ((⟨#[45]⟩ : ByteArray) ++ s).size = s.size + 1 := by
      have h1 : (⟨#[45]⟩ : ByteArray).size = 1 := rfl
      rw [ByteArray.size_append, h1]
      omega
    have HF := Lib.hid (And.intro hs f)
    clear hs f H1
    go_wp2_with fail
    go_ret
    refine ⟨_, rfl, ?_, HF.out.2⟩
    rw [app_list, HF.out.1]
    unfold textF
    rw [if_pos HH.out, HA.out.1]
    rfl
  · obtain ⟨a, rfl⟩ : ∃ a : Nat, n = a := ⟨n.toNat, by omega⟩
    have := rtextn_any a (by omega) w
    unfold textF
    rw [if_neg h0, Int.natAbs_natCast]
    exact this
end Go.Proofs.YtfonchobolhkoaaDoor
