/- Of of the landed code. -/
import Derived.Test.YtfonchobolhkoaaDoorFo2
namespace Go.Proofs.YtfonchobolhkoaaDoor
open Go.RowKit

theorem cup_any (s : ByteArray) (w : World) : Calls Tryd.prog 32 #[.string s, .string ⟨#[45]⟩] w fun e w' => e = .returned (.tuple #[.string ⟨(bodyOf s.data.toList).toArray⟩, .bool (decide (s.data.toList.head? = some 45))]) ∧ w' = w := by
  have h := Any.strings_CutPrefix Tryd.layCup s ⟨#[45]⟩ w
  have e1 : Lib.hasPrefix s.data.toList [45] = decide (s.data.toList.head? = some 45) := by
    unfold Lib.hasPrefix
    cases s.data.toList with
    | nil => simp
    | cons a l =>
      simp only [List.isPrefixOf, List.head?_cons, Bool.and_true]
      by_cases q : a = 45
      · subst q; rfl
      · have q2 : ¬ 45 = a := fun e => q e.symm
        simp [q, q2]
  have e2 : Lib.trimPrefix s.data.toList [45] = bodyOf s.data.toList := by
    unfold Lib.trimPrefix bodyOf
    rw [e1]
    cases s.data.toList with
    | nil => simp
    | cons a l =>
      by_cases q : a = 45 <;> simp [q]
  rw [show (⟨#[45]⟩ : ByteArray).data.toList = [45] from rfl, e1, e2] at h
  exact h
theorem cut_any (s : ByteArray) (hs : s.size ≤ 100000) {w : World} (hv : Vok w) : Calls Tryd.prog 33 #[.string s, .string ⟨#[46]⟩] w fun e w' => e = .returned (.tuple #[.string ⟨(Lib.cut s.data.toList [46]).1.toArray⟩, .string ⟨(Lib.cut s.data.toList [46]).2.1.toArray⟩, .bool (Lib.cut s.data.toList [46]).2.2]) ∧ Fr (fun _ => False) w w' := by
  obtain ⟨m, hm⟩ := (hv w (Fr.refl _ _)).2
  refine (Any.strings_Cut Tryd.layCut s ⟨#[46]⟩ m w (by omega) hm).mono ?_
  rintro e w' ⟨rfl, n, rfl⟩
  exact ⟨rfl, (Fr.refl _ _).drewN n⟩
theorem dval_zero : ∀ {l : List UInt8}, l.all isDig = true → dval l = 0 → ∀ c ∈ l, c = 48
  | [], _, _, c, hc => by cases hc
  | a :: q, hd, h0, c, hc => by
    simp only [List.all_cons, Bool.and_eq_true] at hd
    have h1 := dval_app [a] q
    rw [List.singleton_append, h0] at h1
    have ha : 48 ≤ a.toNat ∧ a.toNat ≤ 57 := of_decide_eq_true hd.1
    have h2 : dval [a] = a.toNat - 48 := by simp [dval]
    rw [h2] at h1
    have hp : 0 < 10 ^ q.length := Nat.pow_pos (by omega)
    have hz : (a.toNat - 48) * 10 ^ q.length = 0 := by omega
    have ha0 : a.toNat - 48 = 0 := by
      rcases Nat.mul_eq_zero.1 hz with h | h
      · exact h
      · omega
    have hq0 : dval q = 0 := by omega
    rcases List.mem_cons.1 hc with rfl | hc
    · have : c.toNat = (48 : UInt8).toNat := by rw [show (48 : UInt8).toNat = 48 from rfl]; omega
      exact UInt8.toNat_inj.1 this
    · exact dval_zero hd.2 hq0 c hc
/-- Only one text of nought bears a sign. -/
theorem zero_parts {A B : List UInt8} (hA : leastB A = true) (hB : B.all isDig = true) (hl : B.length = 2) (h0 : dval (A ++ B) = 0) : A = [48] ∧ B = [48, 48] := by
  unfold leastB at hA
  simp only [Bool.and_eq_true, Bool.or_eq_true, decide_eq_true_eq] at hA
  obtain ⟨⟨hd, hne⟩, hs⟩ := hA
  have h48 := dval_zero (l := A ++ B) (by rw [List.all_append, hd, hB]; rfl) h0
  refine ⟨?_, ?_⟩
  · rcases hs with h | h
    · exact h
    · cases A with
      | nil => exact absurd rfl hne
      | cons a q => exact absurd (by rw [h48 a (by simp)]; rfl) h
  · match B, hl with
    | [b, c], _ => rw [h48 b (by simp), h48 c (by simp)]
theorem sat_le {n : Nat} : (satN n : Int) ≤ 1000000000001 ∧ (satN n = 0 ↔ n = 0) ∧ (1000000000000 < satN n ↔ 1000000000000 < n) ∧ (n ≤ 1000000000000 → satN n = n) := by unfold satN; omega
/-- What Of answers, by the parts. -/
theorem of_bad {l : List UInt8} (h : bodyOk (bodyOf l) = false) : ofFE l = 4 ∧ ofFN l = 0 := by
  have e : ofFE l = 4 := by unfold ofFE formB; rw [h]; rfl
  refine ⟨e, ?_⟩
  unfold ofFN
  rw [e]
  rfl
theorem of_good {l A B : List UInt8} (hA : leastB A = true) (hB : B.all isDig = true) (hl : B.length = 2) (hc : (Lib.cut (bodyOf l) [46]).1 = A) (hc2 : (Lib.cut (bodyOf l) [46]).2.1 = B) :
    (dval (A ++ B) = 0 ∧ l.head? = some 45 → ofFE l = 4 ∧ ofFN l = 0) ∧ (¬ (dval (A ++ B) = 0 ∧ l.head? = some 45) → ofFE l = (if 1000000000000 < dval (A ++ B) then 14 else 0) ∧ ofFN l = if 1000000000000 < dval (A ++ B) then 0 else if l.head? = some 45 then -(dval (A ++ B) : Int) else (dval (A ++ B) : Int)) := by
  obtain ⟨h1, h2⟩ := body_cut (bodyOf l)
  rw [hc, hc2, hA, hB, hl] at h1
  have hb : bodyOk (bodyOf l) = true := by rw [h1]; rfl
  have hd := h2 hb
  rw [hc, hc2] at hd
  constructor
  · rintro ⟨h0, hn⟩
    obtain ⟨rfl, rfl⟩ := zero_parts hA hB hl h0
    have hbl : bodyOf l = l.tail := by unfold bodyOf; rw [if_pos hn]
    have ht : bodyOf l = [48, 46, 48, 48] := by
      rcases dot_cut (bodyOf l) with ⟨_, q⟩ | ⟨A, B, q1, _, q3⟩
      · rw [q] at hc2
        cases hc2
      · rw [q3] at hc hc2
        simp only at hc hc2
        rw [q1, hc, hc2]
        rfl
    have hll : l = [45, 48, 46, 48, 48] := by
      cases l with
      | nil => cases hn
      | cons a q =>
        have ha : a = 45 := by simpa using hn
        rw [hbl] at ht
        simp only [List.tail_cons] at ht
        rw [ha, ht]
    have e : ofFE l = 4 := by rw [hll]; decide
    refine ⟨e, ?_⟩
    unfold ofFN
    rw [e]
    rfl
  · intro hn
    have hf : formB l = true := by
      unfold formB
      rw [hb, Bool.true_and, decide_eq_true_eq]
      intro q
      apply hn
      rw [← hd, q]
      exact ⟨by decide, rfl⟩
    have e : ofFE l = if 1000000000000 < dval (A ++ B) then 14 else 0 := by
      unfold ofFE
      rw [hf, hd, if_pos rfl]
    refine ⟨e, ?_⟩
    unfold ofFN
    rw [e, hd]
    by_cases h : 1000000000000 < dval (A ++ B)
    · rw [if_pos h, if_pos h]; rfl
    · rw [if_neg h, if_neg h, if_pos rfl]
end Go.Proofs.YtfonchobolhkoaaDoor
