/- A text cut at its first dot: pure. -/
import Derived.Test.YtfonchobolhkoaaDoorFxt
import Derived.Lib.IndexMore
import Derived.Lib.SlTrimSet
namespace Go.Proofs.YtfonchobolhkoaaDoor
open Go.RowKit

theorem dot_index : ∀ t : List UInt8, ((46 : UInt8) ∉ t ∧ Lib.index t [46] = -1) ∨ ∃ A B, t = A ++ 46 :: B ∧ (46 : UInt8) ∉ A ∧ Lib.index t [46] = (A.length : Int)
  | [] => .inl ⟨by simp, rfl⟩
  | b :: l => by
    by_cases hb : b = 46
    · subst hb
      exact .inr ⟨[], l, rfl, by simp, by simp [Lib.index]⟩
    · have hp : ([46] : List UInt8).isPrefixOf (b :: l) = false := by
        simp [List.isPrefixOf]
        exact fun h => hb h.symm
      rcases dot_index l with ⟨h1, h2⟩ | ⟨A, B, h1, h2, h3⟩
      · refine .inl ⟨?_, ?_⟩
        · simp [h1]
          exact fun h => hb h.symm
        · rw [Lib.index, hp, h2]
          rfl
      · refine .inr ⟨b :: A, B, by rw [h1]; rfl, ?_, ?_⟩
        · simp [h2]
          exact fun h => hb h.symm
        · rw [Lib.index, hp, h3]
          have : ((A.length : Int) == -1) = false := by rw [beq_eq_false_iff_ne]; omega
          simp [this]
theorem dot_cut (t : List UInt8) : ((46 : UInt8) ∉ t ∧ Lib.cut t [46] = (t, [], false)) ∨ ∃ A B, t = A ++ 46 :: B ∧ (46 : UInt8) ∉ A ∧ Lib.cut t [46] = (A, B, true) := by
  rcases dot_index t with ⟨h1, h2⟩ | ⟨A, B, h1, h2, h3⟩
  · exact .inl ⟨h1, by unfold Lib.cut; rw [h2, if_neg (by omega)]⟩
  · refine .inr ⟨A, B, h1, h2, ?_⟩
    unfold Lib.cut
    rw [h3, if_pos (by omega), Int.toNat_natCast]
    subst h1
    rw [List.take_left' rfl, show A.length + ([46] : List UInt8).length = A.length + 1 from rfl, List.drop_append]
    simp
/-- The hundreds' digits are as few as can be. -/
def leastB (A : List UInt8) : Bool := A.all isDig && decide (A ≠ []) && (decide (A = [48]) || decide (A.head? ≠ some 48))
theorem dig_46 : isDig 46 = false := by decide
/-- The text's form, by its two parts. -/
theorem body_cut (t : List UInt8) : bodyOk t = (leastB (Lib.cut t [46]).1 && (Lib.cut t [46]).2.1.all isDig && decide ((Lib.cut t [46]).2.1.length = 2)) ∧ (bodyOk t = true → digsOf t = (Lib.cut t [46]).1 ++ (Lib.cut t [46]).2.1) := by
  rcases dot_cut t with ⟨h1, h2⟩ | ⟨A, B, h1, h2, h3⟩
  · have hb : bodyOk t = false := by
      unfold bodyOk
      have : ¬ t[t.length - 3]? = some 46 := fun e => h1 (List.mem_of_getElem? e)
      simp [this]
    rw [hb, h2]
    simp
  · rw [h3]
    simp only
    have hl : t.length = A.length + 1 + B.length := by rw [h1]; simp; omega
    have hAt : t[A.length]? = some 46 := by rw [h1, List.getElem?_append_right (Nat.le_refl _)]; simp
    by_cases hB : B.length = 2
    · have hd : digsOf t = A ++ B := by
        unfold digsOf
        rw [hl, hB, show A.length + 1 + 2 - 3 = A.length by omega, show A.length + 1 + 2 - 2 = A.length + 1 by omega, h1, List.take_left' rfl, List.drop_append]
        simp
      refine ⟨?_, fun _ => hd⟩
      unfold bodyOk leastB
      rw [hd, hl, hB, show A.length + 1 + 2 - 3 = A.length by omega, hAt, List.all_append]
      cases hA : A with
      | nil => simp
      | cons a A' =>
        have hh : t.head? = some a := by rw [h1, hA]; rfl
        rw [hh]
        cases hA2 : A' with
        | nil =>
          have e4 : (decide ([a] = [48]) || decide (([a] : List UInt8).head? ≠ some 48)) = true := by
            by_cases q : a = 48 <;> simp [q]
          rw [e4]
          simp
        | cons a2 A3 =>
          have e4 : decide ((a :: a2 :: A3) = [48]) = false := by simp
          have e5 : decide ((a :: a2 :: A3).length + 1 + 2 = 4) = false := by simp
          rw [e4, e5]
          have e6 : decide (4 ≤ (a :: a2 :: A3).length + 1 + 2) = true := by simp
          rw [e6]
          simp only [Bool.false_or, List.head?_cons]
          simp
          cases ((a :: a2 :: A3).all isDig) <;> simp_all
          all_goals (cases decide (a = 48) <;> simp_all)
    · have hb : bodyOk t = false := by
        cases hq : bodyOk t with
        | false => rfl
        | true =>
          exfalso
          unfold bodyOk at hq
          simp only [Bool.and_eq_true, decide_eq_true_eq] at hq
          obtain ⟨⟨⟨q1, q2⟩, _⟩, q4⟩ := hq
          unfold digsOf at q4
          rw [List.all_append, Bool.and_eq_true, List.all_eq_true, List.all_eq_true] at q4
          rcases Nat.lt_or_ge A.length (t.length - 3) with hlt | hge
          · have : (46 : UInt8) ∈ t.take (t.length - 3) := List.mem_of_getElem? (i := A.length) (by rw [List.getElem?_take_of_lt hlt]; exact hAt)
            have := q4.1 _ this
            rw [dig_46] at this
            cases this
          · have hgt : t.length - 2 ≤ A.length := by omega
            have : (46 : UInt8) ∈ t.drop (t.length - 2) := List.mem_of_getElem? (i := A.length - (t.length - 2)) (by rw [List.getElem?_drop, show t.length - 2 + (A.length - (t.length - 2)) = A.length by omega]; exact hAt)
            have := q4.2 _ this
            rw [dig_46] at this
            cases this
      rw [hb]
      simp [hB]
theorem dig_mem (b : UInt8) : ([48, 49, 50, 51, 52, 53, 54, 55, 56, 57] : List UInt8).contains b = isDig b := by
  have h : ∀ k : UInt8, (b = k) ↔ b.toNat = k.toNat := fun k => UInt8.toNat_inj.symm
  rw [Bool.eq_iff_iff, List.contains_iff_mem]
  unfold isDig
  simp only [List.mem_cons, List.not_mem_nil, or_false, h, decide_eq_true_eq]
  have : (48 : UInt8).toNat = 48 ∧ (49 : UInt8).toNat = 49 ∧ (50 : UInt8).toNat = 50 ∧ (51 : UInt8).toNat = 51 ∧ (52 : UInt8).toNat = 52 ∧ (53 : UInt8).toNat = 53 ∧ (54 : UInt8).toNat = 54 ∧ (55 : UInt8).toNat = 55 ∧ (56 : UInt8).toNat = 56 ∧ (57 : UInt8).toNat = 57 := by decide
  omega
theorem dropWhile_nil {α : Type} {p : α → Bool} : ∀ {l : List α}, l.dropWhile p = [] ↔ l.all p = true
  | [] => by simp
  | a :: l => by
    rw [List.dropWhile_cons, List.all_cons]
    cases h : p a with
    | true => simpa using dropWhile_nil (l := l)
    | false => simp
theorem trim_digs (l : List UInt8) : Lib.trimS l [48, 49, 50, 51, 52, 53, 54, 55, 56, 57] = [] ↔ l.all isDig = true := by
  have e : (fun b => ([48, 49, 50, 51, 52, 53, 54, 55, 56, 57] : List UInt8).contains b) = isDig := funext dig_mem
  unfold Lib.trimS Lib.trimLeftS Lib.trimRightS
  rw [e, dropWhile_nil, List.all_reverse]
  constructor
  · intro h
    have h2 : (l.reverse.dropWhile isDig) = [] := by
      cases hh : l.reverse.dropWhile isDig with
      | nil => rfl
      | cons a r =>
        exfalso
        have hne : l.reverse.dropWhile isDig ≠ [] := by rw [hh]; simp
        have h3 := List.head_dropWhile_not isDig hne
        rw [hh] at h
        simp only [hh, List.head_cons] at h3
        rw [List.all_cons, h3] at h
        cases h
    rw [dropWhile_nil, List.all_reverse] at h2
    exact h2
  · intro h
    have : l.reverse.dropWhile isDig = [] := dropWhile_nil.2 (by rw [List.all_reverse]; exact h)
    rw [this]
    rfl
end Go.Proofs.YtfonchobolhkoaaDoor
