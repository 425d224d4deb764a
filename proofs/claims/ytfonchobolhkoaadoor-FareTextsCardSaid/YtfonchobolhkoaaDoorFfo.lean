/- couponref11.Form. -/
import Derived.Test.YtfonchobolhkoaaDoorFtx
namespace Go.Proofs.YtfonchobolhkoaaDoor
open Go.RowKit

theorem digs_all {t : List UInt8} (h4 : 4 ≤ t.length) : (digsOf t).all isDig = true ↔ ∀ (i : Nat) (c : UInt8), t[i]? = some c → i ≠ t.length - 3 → isDig c = true := by
  unfold digsOf
  rw [List.all_append, Bool.and_eq_true, List.all_eq_true, List.all_eq_true]
  constructor
  · rintro ⟨h1, h2⟩ i c hc hi
    have hil := (List.getElem?_eq_some_iff.1 hc).1
    rcases Nat.lt_or_ge i (t.length - 3) with q | q
    · refine h1 c (List.mem_of_getElem? (i := i) ?_)
      rw [List.getElem?_take_of_lt q]
      exact hc
    · refine h2 c (List.mem_of_getElem? (i := i - (t.length - 2)) ?_)
      rw [List.getElem?_drop, show t.length - 2 + (i - (t.length - 2)) = i by omega]
      exact hc
  · intro h
    refine ⟨fun c hc => ?_, fun c hc => ?_⟩
    · obtain ⟨i, hi⟩ := List.getElem?_of_mem hc
      have hil := (List.getElem?_eq_some_iff.1 hi).1
      rw [List.length_take] at hil
      rw [List.getElem?_take_of_lt (by omega)] at hi
      exact h i c hi (by omega)
    · obtain ⟨i, hi⟩ := List.getElem?_of_mem hc
      rw [List.getElem?_drop] at hi
      exact h _ c hi (by omega)
theorem get_at (s : ByteArray) (k : Nat) (h : k < s.size) : s.data.toList[k]? = some s[k] := get_lst s k h
theorem head_get (l : List UInt8) : l.head? = l[0]? := by cases l <;> rfl
/-- What is asked of a text's shape, but for its digits. -/
def shapeB (l : List UInt8) : Bool := decide (4 ≤ (bodyOf l).length) && decide ((bodyOf l)[(bodyOf l).length - 3]? = some 46) && (decide ((bodyOf l).length = 4) || decide ((bodyOf l).head? ≠ some 48)) && decide (l ≠ [45, 48, 46, 48, 48])
theorem form_shape (l : List UInt8) : formB l = (shapeB l && (digsOf (bodyOf l)).all isDig) := by
  unfold formB bodyOk shapeB
  cases (digsOf (bodyOf l)).all isDig <;> simp [Bool.and_assoc]
theorem body_str (s : ByteArray) : ∃ T : ByteArray, T.data.toList = bodyOf s.data.toList ∧ T.size ≤ s.size ∧ (s.data.toList.head? = some 45 → T = s.extract 1 s.size) ∧ (s.data.toList.head? ≠ some 45 → T = s) := by
  by_cases h : s.data.toList.head? = some 45
  · refine ⟨s.extract 1 s.size, ?_, by rw [ByteArray.size_extract]; omega, fun _ => rfl, fun q => absurd h q⟩
    unfold bodyOf
    rw [if_pos h, ByteArray.data_extract, Array.toList_extract, List.extract_eq_take_drop, List.drop_one]
    rw [List.take_of_length_le (by rw [List.length_tail, ← size_list]; omega)]
  · exact ⟨s, by unfold bodyOf; rw [if_neg h], Nat.le_refl _, fun q => absurd q h, fun _ => rfl⟩
set_option maxRecDepth 100000 in
set_option maxHeartbeats 2000000 in
theorem rform_any (s : ByteArray) (hs : s.size ≤ 1000) (w : World) : Calls Tryd.prog 38 #[.string s] w fun e w' => e = .returned (.bool (formB s.data.toList)) ∧ w = w' := by
  obtain ⟨T, hT, hTs, hT1, hT2⟩ := body_str s
  obtain ⟨hd, hhd⟩ : ∃ hd : Bool, hd = decide (s.data.toList.head? = some 45) := ⟨_, rfl⟩
  obtain ⟨b, hb⟩ : ∃ b, b = formB s.data.toList := ⟨_, rfl⟩
  obtain ⟨sh, hsh⟩ : ∃ sh, sh = shapeB s.data.toList := ⟨_, rfl⟩
  rw [← hb]
  rw [form_shape, ← hsh] at hb
  have hTz : T.size ≤ 1000 := by omega
  have HT := Lib.hid (And.intro hT (And.intro hT1 hT2))
  have HB := Lib.hid (And.intro hb (And.intro hsh hhd))
  clear hT hT1 hT2 hb hsh hhd
  go_enter Tryd.func38, Tryd.ntmps38
  go_upto_region 2 with fail
  go_cut [13] from 7 to 13 (fun x wx => x = .bool hd ∧ w = wx)
  case first =>
    by_cases h0 : s.size = 0
    · have hl : s.data.toList = [] := List.eq_nil_of_length_eq_zero (by rw [← size_list]; exact h0)
      have hl2 : s.toList = [] := by rw [ByteArray.toList_eq]; exact hl
      obtain rfl : hd = false := by rw [HB.out.2.2, hl]; rfl
      have hl3 : s.toList.isEmpty = true := by rw [hl2]; rfl
      clear h0 hl
      go_wp2_with fail
      go_meet
      case rel => exact ⟨rfl, rfl⟩
    · have h0' : 0 < s.size := by omega
      have hl : s.data.toList ≠ [] := fun h => h0 (by rw [size_list, h]; rfl)
      have hl4 : s.toList.isEmpty = false := by rw [ByteArray.toList_eq, List.isEmpty_eq_false_iff]; exact hl
      have hl5 : (s.toList != []) = true := by rw [ByteArray.toList_eq, bne_iff_ne]; exact hl
      have hl6 : (s.toList == []) = false := by rw [ByteArray.toList_eq, beq_eq_false_iff_ne]; exact hl
      have hl7 : s.toList = [] ↔ False := by rw [ByteArray.toList_eq]; exact ⟨fun h => hl h, fun h => h.elim⟩
      have hh : hd = decide (s[0].toNat = 45) := by
        rw [HB.out.2.2, head_get, get_at s 0 h0']
        by_cases q : s[0] = 45
        · rw [q]; rfl
        · have : s[0].toNat ≠ 45 := fun e => q (UInt8.toNat_inj.1 (by rw [e]; rfl))
          rw [decide_eq_false (by simpa using q), decide_eq_false this]
      by_cases q : s[0].toNat = 45
      · obtain rfl : hd = true := by rw [hh]; exact decide_eq_true q
        have hq : ((s[0].toNat : Int) == 45) = true := by rw [beq_iff_eq]; omega
        clear h0 hl hh q
        go_wp2
        go_meet
        case rel => exact ⟨rfl, rfl⟩
      · obtain rfl : hd = false := by rw [hh]; exact decide_eq_false q
        have hq : ((s[0].toNat : Int) == 45) = false := by rw [beq_eq_false_iff_ne]; omega
        clear h0 hl hh q
        go_wp2
        go_meet
        case rel => exact ⟨rfl, rfl⟩
  obtain ⟨rfl, rfl⟩ := hcut
  go_upto_if 13 with (fail)
  go_cut [3] from 14 to 15 (fun x wx => x = .string T ∧ w = wx)
  case first =>
    cases hd with
    | true =>
      have hh : s.data.toList.head? = some 45 := of_decide_eq_true HB.out.2.2.symm
      have hTe := HT.out.2.1 hh
      have h1 : 1 ≤ s.size := by
        rcases Nat.eq_zero_or_pos s.size with q | q
        · have hl : s.data.toList = [] := List.eq_nil_of_length_eq_zero (by rw [← size_list]; exact q)
          rw [hl] at hh
          cases hh
        · exact q
      have h1i : (1 : Int) ≤ (s.size : Int) := by omega
      have HTE := Lib.hid hTe
      clear hh hTe
      go_wp2_with fail
      go_meet
      case rel => exact ⟨by rw [HTE.out], rfl⟩
    | false =>
      have hh : s.data.toList.head? ≠ some 45 := of_decide_eq_false HB.out.2.2.symm
      have HTE := Lib.hid (HT.out.2.2 hh)
      clear hh
      go_wp2_with fail
      go_meet
      case rel => exact ⟨by rw [HTE.out], rfl⟩
  obtain ⟨rfl, rfl⟩ := hcut
  go_upto_region 5 with fail
  go_cut [39] from 18 to 39 (fun x wx => x = .bool (!sh) ∧ w = wx)
  case first =>
    have hsh := HB.out.2.1
    unfold shapeB at hsh
    rw [← HT.out.1, ← size_list] at hsh
    by_cases h4 : T.size < 4
    · have e : sh = false := by rw [hsh, decide_eq_false (show ¬ 4 ≤ T.size by omega)]; rfl
      subst e
      have h4i : (T.size : Int) < 4 := by omega
      clear hsh h4
      go_wp2_with fail
      go_meet
      case rel => exact ⟨rfl, rfl⟩
    · have h3 : T.size - 3 < T.size := by omega
      have h0 : 0 < T.size := by omega
      have h4i : (4 : Int) ≤ (T.size : Int) := by omega
      have htn : ((T.size : Int) - 3).toNat = T.size - 3 := by omega
      have h4d : decide ((T.size : Int) < 4) = false := decide_eq_false (by omega)
      obtain ⟨z, hz⟩ : ∃ z, z = decide (s.data.toList = [45, 48, 46, 48, 48]) := ⟨_, rfl⟩
      have hsq : (s.toList == [45, 48, 46, 48, 48]) = z := by
        rw [hz, ByteArray.toList_eq, Bool.eq_iff_iff, beq_iff_eq, decide_eq_true_eq]
      have hnz : decide (s.data.toList ≠ [45, 48, 46, 48, 48]) = !z := by rw [hz]; simp
      rw [decide_eq_true (show 4 ≤ T.size by omega), get_at T _ h3, head_get, get_at T 0 h0, hnz] at hsh
      have k1 : T[T.size - 3] = 46 ↔ T[T.size - 3].toNat = 46 := ⟨fun e => by rw [e]; rfl, fun e => UInt8.toNat_inj.1 (by rw [e]; rfl)⟩
      have k2 : T[0] = 48 ↔ T[0].toNat = 48 := ⟨fun e => by rw [e]; rfl, fun e => UInt8.toNat_inj.1 (by rw [e]; rfl)⟩
      by_cases c1 : T[T.size - 3].toNat = 46
      · have q1 : ((T[T.size - 3].toNat : Int) != 46) = false := by rw [bne_eq_false_iff_eq]; omega
        rw [decide_eq_true (show some T[T.size - 3] = some 46 by rw [k1.2 c1])] at hsh
        by_cases c2 : 4 < T.size
        · have q2 : (4 : Int) < (T.size : Int) := by omega
          rw [decide_eq_false (show ¬ T.size = 4 by omega)] at hsh
          by_cases c3 : T[0].toNat = 48
          · have q3 : ((T[0].toNat : Int) == 48) = true := by rw [beq_iff_eq]; omega
            rw [decide_eq_false (show ¬ (some T[0] ≠ some 48) by rw [k2.2 c3]; simp)] at hsh
            obtain rfl : sh = false := by rw [hsh]; rfl
            clear hsh k1 k2 c1 c2 c3 hz hnz h4
            go_wp2_with fail
            go_meet
            case rel => exact ⟨rfl, rfl⟩
          · have q3 : ((T[0].toNat : Int) == 48) = false := by rw [beq_eq_false_iff_ne]; omega
            rw [decide_eq_true (show some T[0] ≠ some 48 from fun e => c3 (k2.1 (by injection e)))] at hsh
            obtain rfl : sh = !z := by rw [hsh]; cases z <;> rfl
            clear hsh k1 k2 c1 c2 c3 hz hnz h4
            go_wp2_with fail
            go_meet
            case rel => exact ⟨by simp, rfl⟩
        · have q2 : ¬ (4 : Int) < (T.size : Int) := by omega
          rw [decide_eq_true (show T.size = 4 by omega)] at hsh
          obtain rfl : sh = !z := by rw [hsh]; cases z <;> rfl
          clear hsh k1 k2 c1 c2 hz hnz h4
          go_wp2_with fail
          go_meet
          case rel => exact ⟨by simp, rfl⟩
      · have q1 : ((T[T.size - 3].toNat : Int) != 46) = true := by rw [bne_iff_ne]; omega
        rw [decide_eq_false (show ¬ (some T[T.size - 3] = some 46) from fun e => c1 (k1.1 (by injection e)))] at hsh
        obtain rfl : sh = false := by rw [hsh]; rfl
        clear hsh k1 k2 c1 hz hnz h4
        go_wp2_with fail
        go_meet
        case rel => exact ⟨rfl, rfl⟩
  obtain ⟨rfl, rfl⟩ := hcut
  cases sh with
  | false =>
    obtain rfl : b = false := by rw [HB.out.1]; rfl
    go_wp2_with fail
    go_ret
    exact ⟨rfl, rfl⟩
  | true =>
    have hb := HB.out.1
    rw [Bool.true_and, ← HT.out.1] at hb
    have h4 : 4 ≤ T.size := by
      have h := HB.out.2.1
      unfold shapeB at h
      rw [← HT.out.1, ← size_list] at h
      have h' := h.symm
      simp only [Bool.and_eq_true, decide_eq_true_eq] at h'
      exact h'.1.1.1
    have HBB := Lib.hid hb
    have h4i : (4 : Int) ≤ (T.size : Int) := by omega
    have HH4 := Lib.hid h4
    clear hb h4
    go_wp2_with fail
    go_loop [5] (fun x => ∃ k : Nat, x = .int .i64 k ∧ k ≤ T.size ∧ Hid (∀ (i : Nat) (c : UInt8), i < k → T.data.toList[i]? = some c → i ≠ T.data.toList.length - 3 → isDig c = true)) (fun x => T.size - (intOf x).toNat)
    case atStart => exact ⟨0, rfl, Nat.zero_le _, Lib.hid (fun i c hi => absurd hi (by omega))⟩
    case round =>
      obtain ⟨k, rfl, hk, HK⟩ := hrel
      by_cases hlt : k < T.size
      · have hki : (k : Int) < (T.size : Int) := by omega
        have hk0 : (0 : Int) ≤ (k : Int) := by omega
        have hget := get_at T k hlt
        have hlen : T.data.toList.length = T.size := (size_list T).symm
        by_cases hk3 : k = T.size - 3
        · have q : ((k : Int) != (T.size : Int) - 3) = false := by rw [bne_eq_false_iff_eq]; have := HH4.out; omega
          have HN : Hid (∀ (i : Nat) (c : UInt8), i < k + 1 → T.data.toList[i]? = some c → i ≠ T.data.toList.length - 3 → isDig c = true) := Lib.hid (fun i c hi hc hne => by
            by_cases e : i = k
            · rw [e, hlen] at hne
              exact absurd hk3 hne
            · exact HK.out i c (by omega) hc hne)
          have HLT := Lib.hid hlt
          clear hk3 hlen hget hlt
          go_wp2_with fail
          exact ⟨⟨k + 1, by go_num, HLT.out, HN⟩, by simp [intOf]; have := HLT.out; omega⟩
        · have q : ((k : Int) != (T.size : Int) - 3) = true := by rw [bne_iff_ne]; have := HH4.out; omega
          by_cases hdig : 48 ≤ T[k].toNat ∧ T[k].toNat ≤ 57
          · obtain ⟨hd1, hd2⟩ := hdig
            have hd3 : decide ((T[k].toNat : Int) < 48) = false := by rw [decide_eq_false_iff_not]; omega
            have hd4 : decide (57 < (T[k].toNat : Int)) = false := by rw [decide_eq_false_iff_not]; omega
            have HN : Hid (∀ (i : Nat) (c : UInt8), i < k + 1 → T.data.toList[i]? = some c → i ≠ T.data.toList.length - 3 → isDig c = true) := Lib.hid (fun i c hi hc hne => by
              by_cases e : i = k
              · rw [e, hget] at hc
                injection hc with hc
                rw [← hc]
                exact decide_eq_true ⟨hd1, hd2⟩
              · exact HK.out i c (by omega) hc hne)
            have HLT := Lib.hid hlt
            clear hk3 hlen hget
            go_wp2_with fail
            exact ⟨⟨k + 1, by go_num, HLT.out, HN⟩, by simp [intOf]; have := HLT.out; omega⟩
          · have hfalse : b = false := by
              rw [HBB.out]
              cases hh : (digsOf T.data.toList).all isDig with
              | false => rfl
              | true =>
                have h1 := (digs_all (t := T.data.toList) (by rw [hlen]; exact HH4.out)).1 hh k _ hget (by rw [hlen]; exact hk3)
                exact absurd (of_decide_eq_true h1) hdig
            subst hfalse
            by_cases hlo : T[k].toNat < 48
            · have hd3 : decide ((T[k].toNat : Int) < 48) = true := by rw [decide_eq_true_eq]; omega
              clear hdig hk3 hlen hget
              go_wp2_with fail
              go_ret
              exact ⟨rfl, rfl⟩
            · have hd3 : decide ((T[k].toNat : Int) < 48) = false := by rw [decide_eq_false_iff_not]; omega
              have hd4 : decide (57 < (T[k].toNat : Int)) = true := by rw [decide_eq_true_eq]; omega
              clear hdig hk3 hlen hget
              go_wp2_with fail
              go_ret
              exact ⟨rfl, rfl⟩
      · have hlen : T.data.toList.length = T.size := (size_list T).symm
        have htrue : b = true := by
          rw [HBB.out]
          exact (digs_all (t := T.data.toList) (by rw [hlen]; exact HH4.out)).2 (fun i c hc hne => HK.out i c (by have := (List.getElem?_eq_some_iff.1 hc).1; omega) hc hne)
        subst htrue
        have hki : ¬ (k : Int) < (T.size : Int) := by omega
        clear hlt hlen
        go_wp2_with fail
        go_ret
        exact ⟨rfl, rfl⟩
end Go.Proofs.YtfonchobolhkoaaDoor
