/- couponref01.Signed, couponref01.Whole. -/
import Derived.Test.YthmjfbefekicdaaSgn
namespace Go.Proofs.Ythmjfbefekicdaa
open Go.RowKit

theorem eq_bytes (s t : ByteArray) : (s.toList == t.toList) = decide (s.data.toList = t.data.toList) := by
  rw [ByteArray.toList_eq, ByteArray.toList_eq, Bool.eq_iff_iff, beq_iff_eq, decide_eq_true_eq]

/-- What the rest of Signed asks, whatever stood ahead. -/
theorem rs_facts (b : Bool) (l : List UInt8) (m : Int) : (mayB l = false → sgE b l m = 4 ∧ sgN b l m = 0) ∧
    (mayB l = true → b = true → l = [48] → sgE b l m = 4 ∧ sgN b l m = 0) ∧
    (mayB l = true → ¬ (b = true ∧ l = [48]) → m < 0 → sgE b l m = 5 ∧ sgN b l m = 0) ∧
    (mayB l = true → ¬ (b = true ∧ l = [48]) → 0 ≤ m → m < (dval l : Nat) → sgE b l m = 5 ∧ sgN b l m = 0) ∧
    (mayB l = true → ¬ (b = true ∧ l = [48]) → 0 ≤ m → (dval l : Nat) ≤ m → sgE b l m = 0 ∧ sgN b l m = (if b then -((dval l : Nat) : Int) else (dval l : Nat))) := by
  have hb : ¬ (b = true ∧ l = [48]) → (b && l == [48]) = false := by
    intro h48
    rw [Bool.eq_false_iff]
    intro h
    rw [Bool.and_eq_true, beq_iff_eq] at h
    exact h48 h
  refine ⟨fun h => ?_, fun h h1 h2 => ?_, fun h h1 h2 => ?_, fun h h1 h2 h3 => ?_, fun h h1 h2 h3 => ?_⟩
  · have e : sgE b l m = 4 := by simp [sgE, h]
    exact ⟨e, by simp [sgN, e]⟩
  · have e : sgE b l m = 4 := by simp [sgE, h1, h2]
    exact ⟨e, by simp [sgN, e]⟩
  · have e : sgE b l m = 5 := by simp [sgE, h, hb h1, h2]
    exact ⟨e, by simp [sgN, e]⟩
  · have e : sgE b l m = 5 := by simp [sgE, h, hb h1, h3]
    exact ⟨e, by simp [sgN, e]⟩
  · have n1 : ¬ m < 0 := by omega
    have n2 : ¬ m < (dval l : Nat) := by omega
    have e : sgE b l m = 0 := by simp [sgE, h, hb h1, n1, n2]
    exact ⟨e, by simp [sgN, e]⟩

set_option maxHeartbeats 400000 in
theorem rsgn_yes (s t : ByteArray) (hs : s.size ≤ 1000) (h : s.data.toList = 45 :: t.data.toList) (m : Int) (h0 : -9223372036854775808 ≤ m) (h1 : m ≤ 9223372036854775807) (w : World) :
    Calls Try.prog 42 #[.string s, .int .i64 m] w fun e w' => e = .returned (.tuple #[.int .i64 (sgN true t.data.toList m), .int .i64 (sgE true t.data.toList m)]) ∧ Fr (fun _ => False) w w' := by
  have hsz : s.size = t.size + 1 := by
    have := congrArg List.length h
    rw [Array.length_toList] at this
    exact this
  have hts : t.size ≤ 1000 := by omega
  have hpos : 0 < s.size := by omega
  have hone : 1 ≤ s.size := hpos
  have ht : s.extract 1 s.size = t := Go.WideShapes.bytes_inj (by rw [Lib.extract_to_end, h]; rfl)
  have q1 : (s.toList == []) = false := by rw [ByteArray.toList_eq, h]; rfl
  have q2 : s.toList.isEmpty = false := by rw [ByteArray.toList_eq, h]; rfl
  have hq0 : s[0] = 45 := by
    have h2 := get_lst s 0 hpos
    rw [h] at h2
    injection h2 with h2
    exact h2.symm
  have q3 : ((s[0].toNat : Int) == 45) = true := by rw [hq0]; rfl
  have q4 : (s.toList == [45, 48]) = (t.data.toList == [48]) := by rw [ByteArray.toList_eq, h]; rfl
  have q5 : (s.toList == t.toList) = false := by
    rw [eq_bytes, decide_eq_false_iff_not, h]
    intro e
    have := congrArg List.length e
    simp at this
  have hcut : True := trivial
  obtain ⟨x, hx⟩ : ∃ x, x = sgN true t.data.toList m := ⟨_, rfl⟩
  obtain ⟨y, hy⟩ : ∃ y, y = sgE true t.data.toList m := ⟨_, rfl⟩
  obtain ⟨g1, g2, g3, g4, g5⟩ := rs_facts true t.data.toList m
  rw [← hx, ← hy] at g1 g2 g3 g4 g5
  rw [← hx, ← hy]
  have HM := Lib.hid (may_any t hts)
  have HA := Lib.hid (above_any t hts)
  have HV := Lib.hid (worth_any t hts)
  have H1 := Lib.hid (And.intro h0 h1)
  clear hx hy h0 h1 h hcut hq0 hsz
  cases hmay : mayB t.data.toList with
  | false =>
    obtain ⟨rfl, rfl⟩ := g1 hmay
    rw [hmay] at HM
    clear g1 g2 g3 g4 g5 hmay HA HV q4
    go_enter Try.func42, Try.ntmps42
    go_wp2_with fail
    (with_reducible refine (HM.out _).mono ?_)
    rintro e w' ⟨rfl, rfl⟩
    go_wp2_with fail
    go_ret2
    exact ⟨rfl, Fr.refl _ _⟩
  | true =>
    rw [hmay] at HM
    by_cases h48 : t.data.toList = [48]
    · obtain ⟨rfl, rfl⟩ := g2 hmay rfl h48
      have q6 : (s.toList == [45, 48]) = true := by rw [q4, h48]; rfl
      clear g1 g2 g3 g4 g5 hmay HA HV q4 h48
      go_enter Try.func42, Try.ntmps42
      go_wp2_with fail
      (with_reducible refine (HM.out _).mono ?_)
      rintro e w' ⟨rfl, rfl⟩
      go_wp2_with fail
      go_ret2
      exact ⟨rfl, Fr.refl _ _⟩
    have q6 : (s.toList == [45, 48]) = false := by rw [q4, beq_eq_false_iff_ne]; exact h48
    clear q4
    have hn48 : ¬ (true = true ∧ t.data.toList = [48]) := fun e => h48 e.2
    clear h48
    by_cases hm : m < 0
    · obtain ⟨rfl, rfl⟩ := g3 hmay hn48 hm
      clear g1 g2 g3 g4 g5 hmay HA HV hn48
      go_enter Try.func42, Try.ntmps42
      go_wp2_with fail
      (with_reducible refine (HM.out _).mono ?_)
      rintro e w' ⟨rfl, rfl⟩
      go_wp2_with fail
      go_ret2
      exact ⟨rfl, Fr.refl _ _⟩
    obtain ⟨k, rfl⟩ := Int.eq_ofNat_of_zero_le (show 0 ≤ m by omega)
    have hw : IntKind.u64.wrap (k : Int) = (k : Int) := by rw [wrapU]; have := H1.out; omega
    have hab := above_iff hmay (txt_may k)
    rw [(txt_digs k).2.1] at hab
    have HA2 := Lib.hid (HA.out k (by have := H1.out; omega))
    rw [hab] at HA2
    clear hab HA hm
    by_cases hq : k < dval t.data.toList
    · obtain ⟨rfl, rfl⟩ := g4 hmay hn48 (by omega) (by omega)
      have hqd : decide (k < dval t.data.toList) = true := by rw [decide_eq_true_eq]; exact hq
      rw [hqd] at HA2
      clear g1 g2 g3 g4 g5 hmay HV hn48 hq hqd
      go_enter Try.func42, Try.ntmps42
      go_wp2_with fail
      (with_reducible refine (HM.out _).mono ?_)
      rintro e w' ⟨rfl, rfl⟩
      go_wp2_with fail
      refine (HA2.out _).mono ?_
      rintro e w' ⟨rfl, hf⟩
      go_wp2_with fail
      go_ret2
      exact ⟨rfl, hf⟩
    · obtain ⟨hxx, rfl⟩ := (g5 hmay hn48 (by omega) (by omega)).symm
      have hqd : decide (k < dval t.data.toList) = false := by rw [decide_eq_false_iff_not]; exact hq
      rw [hqd] at HA2
      have HV2 := Lib.hid (HV.out (mayB_form hmay).1 (by have := H1.out; omega))
      have hvk : dval t.data.toList ≤ k := by omega
      generalize dval t.data.toList = N at *
      subst hxx
      have hw2 : wrap64 (N : Int) = (N : Int) := by have := H1.out; unfold wrap64; omega
      have hw3 : wrap64 (-(N : Int)) = -(N : Int) := by have := H1.out; unfold wrap64; omega
      clear g1 g2 g3 g4 g5 hmay HV hn48 hq hqd hvk
      go_enter Try.func42, Try.ntmps42
      go_wp2_with fail
      (with_reducible refine (HM.out _).mono ?_)
      rintro e w' ⟨rfl, rfl⟩
      go_wp2_with fail
      refine (HA2.out _).mono ?_
      rintro e w' ⟨rfl, hf⟩
      go_wp2_with fail
      refine (HV2.out _).mono ?_
      rintro e w' ⟨rfl, rfl⟩
      go_wp2_with fail
      go_ret2
      exact ⟨rfl, hf⟩

set_option maxHeartbeats 400000 in
theorem rsgn_no (t : ByteArray) (hs : t.size ≤ 1000) (h : t.data.toList.head? ≠ some 45) (hne : t.data.toList ≠ []) (m : Int) (h0 : -9223372036854775808 ≤ m) (h1 : m ≤ 9223372036854775807) (w : World) :
    Calls Try.prog 42 #[.string t, .int .i64 m] w fun e w' => e = .returned (.tuple #[.int .i64 (sgN false t.data.toList m), .int .i64 (sgE false t.data.toList m)]) ∧ Fr (fun _ => False) w w' := by
  have hts : t.size ≤ 1000 := hs
  have hpos : 0 < t.size := by
    rcases Nat.eq_zero_or_pos t.size with e | e
    · exact absurd (List.eq_nil_of_length_eq_zero (by rw [Array.length_toList]; exact e)) hne
    · exact e
  have q1 : (t.toList == []) = false := by rw [ByteArray.toList_eq, beq_eq_false_iff_ne]; exact hne
  have q2 : t.toList.isEmpty = false := by rw [ByteArray.toList_eq, List.isEmpty_eq_false_iff]; exact hne
  have q3 : ((t[0].toNat : Int) == 45) = false := by
    rw [beq_eq_false_iff_ne]
    intro e
    apply h
    have h2 := get_lst t 0 hpos
    rw [List.head?_eq_getElem?, h2]
    congr 1
    exact UInt8.toNat_inj.1 (by show t[0].toNat = 45; omega)
  have q4 : (t.toList == [45, 48]) = false := by
    rw [ByteArray.toList_eq, beq_eq_false_iff_ne]
    intro e
    rw [e] at h
    exact h rfl
  obtain ⟨x, hx⟩ : ∃ x, x = sgN false t.data.toList m := ⟨_, rfl⟩
  obtain ⟨y, hy⟩ : ∃ y, y = sgE false t.data.toList m := ⟨_, rfl⟩
  obtain ⟨g1, g2, g3, g4, g5⟩ := rs_facts false t.data.toList m
  rw [← hx, ← hy] at g1 g2 g3 g4 g5
  rw [← hx, ← hy]
  have HM := Lib.hid (may_any t hts)
  have HA := Lib.hid (above_any t hts)
  have HV := Lib.hid (worth_any t hts)
  have H1 := Lib.hid (And.intro h0 h1)
  clear hx hy h0 h1 h hne
  cases hmay : mayB t.data.toList with
  | false =>
    obtain ⟨rfl, rfl⟩ := g1 hmay
    rw [hmay] at HM
    clear g1 g2 g3 g4 g5 hmay HA HV q4
    go_enter Try.func42, Try.ntmps42
    go_wp2_with fail
    (with_reducible refine (HM.out _).mono ?_)
    rintro e w' ⟨rfl, rfl⟩
    go_wp2_with fail
    go_ret2
    exact ⟨rfl, Fr.refl _ _⟩
  | true =>
    rw [hmay] at HM
    have hn48 : ¬ (false = true ∧ t.data.toList = [48]) := fun e => by cases e.1
    by_cases hm : m < 0
    · obtain ⟨rfl, rfl⟩ := g3 hmay hn48 hm
      clear g1 g2 g3 g4 g5 hmay HA HV hn48
      go_enter Try.func42, Try.ntmps42
      go_wp2_with fail
      (with_reducible refine (HM.out _).mono ?_)
      rintro e w' ⟨rfl, rfl⟩
      go_wp2_with fail
      go_ret2
      exact ⟨rfl, Fr.refl _ _⟩
    obtain ⟨k, rfl⟩ := Int.eq_ofNat_of_zero_le (show 0 ≤ m by omega)
    have hw : IntKind.u64.wrap (k : Int) = (k : Int) := by rw [wrapU]; have := H1.out; omega
    have hab := above_iff hmay (txt_may k)
    rw [(txt_digs k).2.1] at hab
    have HA2 := Lib.hid (HA.out k (by have := H1.out; omega))
    rw [hab] at HA2
    clear hab HA hm
    by_cases hq : k < dval t.data.toList
    · obtain ⟨rfl, rfl⟩ := g4 hmay hn48 (by omega) (by omega)
      have hqd : decide (k < dval t.data.toList) = true := by rw [decide_eq_true_eq]; exact hq
      rw [hqd] at HA2
      clear g1 g2 g3 g4 g5 hmay HV hn48 hq hqd
      go_enter Try.func42, Try.ntmps42
      go_wp2_with fail
      (with_reducible refine (HM.out _).mono ?_)
      rintro e w' ⟨rfl, rfl⟩
      go_wp2_with fail
      refine (HA2.out _).mono ?_
      rintro e w' ⟨rfl, hf⟩
      go_wp2_with fail
      go_ret2
      exact ⟨rfl, hf⟩
    · obtain ⟨hxx, rfl⟩ := (g5 hmay hn48 (by omega) (by omega)).symm
      have hqd : decide (k < dval t.data.toList) = false := by rw [decide_eq_false_iff_not]; exact hq
      rw [hqd] at HA2
      have HV2 := Lib.hid (HV.out (mayB_form hmay).1 (by have := H1.out; omega))
      have hvk : dval t.data.toList ≤ k := by omega
      generalize dval t.data.toList = N at *
      subst hxx
      have hw2 : wrap64 (N : Int) = (N : Int) := by have := H1.out; unfold wrap64; omega
      have hw3 : wrap64 (-(N : Int)) = -(N : Int) := by have := H1.out; unfold wrap64; omega
      clear g1 g2 g3 g4 g5 hmay HV hn48 hq hqd hvk
      go_enter Try.func42, Try.ntmps42
      go_wp2_with fail
      (with_reducible refine (HM.out _).mono ?_)
      rintro e w' ⟨rfl, rfl⟩
      go_wp2_with fail
      refine (HA2.out _).mono ?_
      rintro e w' ⟨rfl, hf⟩
      go_wp2_with fail
      refine (HV2.out _).mono ?_
      rintro e w' ⟨rfl, rfl⟩
      go_wp2_with fail
      go_ret2
      exact ⟨rfl, hf⟩

set_option maxHeartbeats 400000 in
theorem rsgn_nil (t : ByteArray) (h : t.data.toList = []) (m : Int) (h0 : -9223372036854775808 ≤ m) (h1 : m ≤ 9223372036854775807) (w : World) :
    Calls Try.prog 42 #[.string t, .int .i64 m] w fun e w' => e = .returned (.tuple #[.int .i64 (sgN false t.data.toList m), .int .i64 (sgE false t.data.toList m)]) ∧ Fr (fun _ => False) w w' := by
  have hq : t.size = 0 := by
    have := congrArg List.length h
    rw [Array.length_toList] at this
    exact this
  have hts : t.size ≤ 1000 := by omega
  have q1 : t.toList = [] := by rw [ByteArray.toList_eq]; exact h
  have q4 : (t.toList == [45, 48]) = false := by rw [q1]; rfl
  obtain ⟨x, hx⟩ : ∃ x, x = sgN false t.data.toList m := ⟨_, rfl⟩
  obtain ⟨y, hy⟩ : ∃ y, y = sgE false t.data.toList m := ⟨_, rfl⟩
  obtain ⟨g1, g2, g3, g4, g5⟩ := rs_facts false t.data.toList m
  rw [← hx, ← hy] at g1 g2 g3 g4 g5
  rw [← hx, ← hy]
  have HM := Lib.hid (may_any t hts)
  have HA := Lib.hid (above_any t hts)
  have HV := Lib.hid (worth_any t hts)
  have H1 := Lib.hid (And.intro h0 h1)
  clear hx hy h0 h1 h hq
  cases hmay : mayB t.data.toList with
  | false =>
    obtain ⟨rfl, rfl⟩ := g1 hmay
    rw [hmay] at HM
    clear g1 g2 g3 g4 g5 hmay HA HV q4
    go_enter Try.func42, Try.ntmps42
    go_wp2_with fail
    (with_reducible refine (HM.out _).mono ?_)
    rintro e w' ⟨rfl, rfl⟩
    go_wp2_with fail
    go_ret2
    exact ⟨rfl, Fr.refl _ _⟩
  | true =>
    rw [ByteArray.toList_eq] at q1
    rw [q1] at hmay
    cases hmay

end Go.Proofs.Ythmjfbefekicdaa
