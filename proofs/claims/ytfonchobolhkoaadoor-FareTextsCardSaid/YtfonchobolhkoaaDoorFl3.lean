/- The law FareTexts, of what fare's calls answer. -/
import Derived.Test.YtfonchobolhkoaaDoorFl1
namespace Go.Proofs.YtfonchobolhkoaaDoor
open Go.RowKit

theorem bytes_eq {s t : ByteArray} (h : s.data.toList = t.data.toList) : s = t := by
  obtain ⟨⟨a⟩⟩ := s
  obtain ⟨⟨b⟩⟩ := t
  have : a = b := h
  rw [this]
theorem textF_len {n : Int} (h : -1000000000000 ≤ n ∧ n ≤ 1000000000000) : (textF n).length ≤ 17 := by
  have h1 : (textN n.natAbs).length ≤ 16 := by
    have := txt_len 12 (n.natAbs / 100) (by have : (10 : Nat) ^ (12 + 1) = 10000000000000 := rfl; omega)
    simp [textN, padL_len]
    omega
  unfold textF
  split
  · simp; omega
  · omega
set_option maxRecDepth 100000 in
set_option maxHeartbeats 4000000 in
theorem ftexts (P : FareP) (n : Int) (lo : -9223372036854775808 ≤ n) (hi : n ≤ 9223372036854775807) (s : ByteArray) (w : World) (hvk : Vok w) : Calls Tryd.prog 9 #[.int .i64 n, .string s] w (Tru w) := by
  have HK := Lib.hid (fun W (fk : Fr (fun _ => False) w W) => fknown P W (hvk.keep fk))
  by_cases hl : 100 < s.size
  · have hli : (100 : Int) < (s.size : Int) := by omega
    clear lo hi hl hvk
    go_enter Tryd.func9, Tryd.ntmps9
    go_wp2_with fail
    refine (HK.out _ (Fr.refl _ _)).mono ?_
    rintro e w1 ⟨rfl, f1⟩
    have HF := Lib.hid f1
    clear f1
    go_wp2_with fail
    go_ret
    exact ⟨rfl, HF.out⟩
  · have hli : ¬ (100 : Int) < (s.size : Int) := by omega
    have HT := Lib.hid (P.text n w hvk lo hi)
    have HO := Lib.hid (fun (t : ByteArray) W (fk : Fr (fun _ => False) w W) (h : t.size ≤ 1000) => P.of_ t W (hvk.keep fk) h)
    have HS := Lib.hid (fun W (fk : Fr (fun _ => False) w W) => P.of_ s W (hvk.keep fk) (by omega))
    have HR := Lib.hid (fun W => rofa_any s (by omega) W)
    obtain ⟨y, hy⟩ : ∃ y, y = ofFN s.data.toList := ⟨_, rfl⟩
    obtain ⟨z, hz⟩ : ∃ z : Nat, z = ofFE s.data.toList := ⟨_, rfl⟩
    simp only [← hy, ← hz] at HS HR
    have hyy : (y == y) = true := by simp
    have hzz : ((z : Int) == (z : Int)) = true := by simp
    have hznn : (z == z) = true := by simp
    clear lo hi hl hy hz hvk
    by_cases hn : -1000000000000 ≤ n ∧ n ≤ 1000000000000
    · have hm : mayF n = true := decide_eq_true hn
      have HM := Lib.hid (fun W => rmayf_any n W)
      rw [hm] at HM
      have HX := Lib.hid (fun W => rtext_any n hn W)
      have htl := textF_len hn
      obtain ⟨ho1, ho2⟩ := textF_of hn
      have htr : textR n = textF n := by unfold textR; rw [hm]; rfl
      have HC := Lib.hid (And.intro htl (And.intro ho1 (And.intro ho2 htr)))
      have hnn : (n != n) = false := by simp
      clear hn hm htl ho1 ho2 htr
      go_enter Tryd.func9, Tryd.ntmps9
      go_wp2_with fail
      refine HT.out.mono ?_
      rintro e w1 ⟨t, rfl, ht, f1⟩
      rw [HC.out.2.2.2] at ht
      have HO1 := Lib.hid (HO.out t w1 f1 (by rw [size_list, ht]; have := HC.out.1; omega))
      rw [ht, HC.out.2.1, HC.out.2.2.1] at HO1
      have HF1 := Lib.hid (And.intro ht f1)
      clear ht f1 HT HO
      go_wp2_with fail
      refine HO1.out.mono ?_
      rintro e w2 ⟨rfl, f2⟩
      have HF2 := Lib.hid (HF1.out.2.trans f2 (fun _ _ q => q))
      clear f2 HO1
      go_wp2_with fail
      refine (HM.out _).mono ?_
      rintro e w3 ⟨rfl, rfl⟩
      go_wp2_with fail
      refine (HX.out _).mono ?_
      rintro e w4 ⟨t', rfl, ht', f4⟩
      obtain rfl := bytes_eq (HF1.out.1.trans ht'.symm)
      have HF4 := Lib.hid (HF2.out.trans f4 (fun _ _ q => q))
      clear ht' f4 HX HM
      go_wp2_with fail
      refine (HS.out _ HF4.out).mono ?_
      rintro e w5 ⟨rfl, f5⟩
      have HF5 := Lib.hid (HF4.out.trans f5 (fun _ _ q => q))
      clear f5
      go_wp2_with fail
      refine (HR.out _).mono ?_
      rintro e w6 ⟨rfl, rfl⟩
      go_wp2_with fail
      refine (HK.out _ HF5.out).mono ?_
      rintro e w7 ⟨rfl, f7⟩
      have HF7 := Lib.hid (HF5.out.trans f7 (fun _ _ q => q))
      clear f7
      go_wp2_with fail
      go_ret
      exact ⟨rfl, HF7.out⟩
    · have hm : mayF n = false := decide_eq_false hn
      have HM := Lib.hid (fun W => rmayf_any n W)
      rw [hm] at HM
      have htr : textR n = [] := by unfold textR; rw [hm]; rfl
      have HC := Lib.hid htr
      clear hn hm htr
      go_enter Tryd.func9, Tryd.ntmps9
      go_wp2_with fail
      refine HT.out.mono ?_
      rintro e w1 ⟨t, rfl, ht, f1⟩
      rw [HC.out] at ht
      obtain rfl : t = ⟨#[]⟩ := bytes_eq ht
      have HO1 := Lib.hid (HO.out ⟨#[]⟩ w1 f1 (by decide))
      rw [show ofFN (⟨#[]⟩ : ByteArray).data.toList = 0 from by decide, show ofFE (⟨#[]⟩ : ByteArray).data.toList = 4 from by decide] at HO1
      have HF1 := Lib.hid f1
      clear ht f1 HT HO
      go_wp2_with fail
      refine HO1.out.mono ?_
      rintro e w2 ⟨rfl, f2⟩
      have HF2 := Lib.hid (HF1.out.trans f2 (fun _ _ q => q))
      clear f2 HO1
      go_wp2_with fail
      refine (HM.out _).mono ?_
      rintro e w3 ⟨rfl, rfl⟩
      go_wp2_with fail
      refine (HS.out _ HF2.out).mono ?_
      rintro e w5 ⟨rfl, f5⟩
      have HF5 := Lib.hid (HF2.out.trans f5 (fun _ _ q => q))
      clear f5
      go_wp2_with fail
      refine (HR.out _).mono ?_
      rintro e w6 ⟨rfl, rfl⟩
      go_wp2_with fail
      refine (HK.out _ HF5.out).mono ?_
      rintro e w7 ⟨rfl, f7⟩
      have HF7 := Lib.hid (HF5.out.trans f7 (fun _ _ q => q))
      clear f7
      go_wp2_with fail
      go_ret
      exact ⟨rfl, HF7.out⟩
end Go.Proofs.YtfonchobolhkoaaDoor
