/- The landed status' search, pure: from the one on, until the other one is come to. -/
import Derived.Test.YthffnepfnadakaaSqm
import Derived.Test.YthffnepfnadakaaSqq
import Derived.Test.YthffnepfnadakaaSmp
import Derived.Test.YthffnepfnadakaaSo2
namespace Go.Proofs.Ythffnepfnadakaa
open Go.RowKit

abbrev StQ := (Nat → Option Nat) × List Nat × Bool
def stepQ (q b : Nat) (st : StQ) (s : Nat) : StQ := if st.2.2 then st else if (st.1 s).isSome then st else if s = b then (updS st.1 s q, st.2.1, true) else (updS st.1 s q, st.2.1 ++ [s], false)
def inQ (q b : Nat) (st : StQ) (k : Nat) : StQ := ((nextL q).take k).foldl (stepQ q b) st
def outQ (a b : Nat) : Nat → StQ
  | 0 => (updS (fun _ => none) a a, [a], false)
  | i + 1 =>
    let st := inQ ((outQ a b i).2.1.headD 0) b (outQ a b i) 9
    if st.2.2 then st else (st.1, st.2.1.tail, false)
def backL (f : Nat → Option Nat) (a : Nat) : Nat → Nat → List Nat
  | 0, _ => []
  | k + 1, s => if s = a then [s] else s :: backL f a k ((f s).getD 0)
/-- What the search leaves, of a and b. -/
def FinQ (a b : Nat) (f : Nat → Option Nat) : Bool := ((f b).isSome == !(wayL a b).isEmpty) && (!(f b).isSome || backL f a 10 b == (wayL a b).reverse)
def idxQ (a b z : Nat) : Nat := ((List.range 12).find? fun i => (outQ a b i).2.1.head? == some z && !(outQ a b i).2.2).getD 0
theorem inQ_zero (q b : Nat) (st : StQ) : inQ q b st 0 = st := rfl
theorem inQ_step (q b : Nat) (st : StQ) (k s : Nat) (h : (nextL q)[k]? = some s) : inQ q b st (k + 1) = stepQ q b (inQ q b st k) s := by
  unfold inQ
  rw [List.take_add_one, h, List.foldl_append]
  rfl
theorem stepQ_done (q b : Nat) (st : StQ) (h : st.2.2 = true) (l : List Nat) : l.foldl (stepQ q b) st = st := by
  induction l with
  | nil => rfl
  | cons s l ih =>
    rw [List.foldl_cons, show stepQ q b st s = st from by unfold stepQ; rw [if_pos h]]
    exact ih
theorem inQ_done (q b : Nat) (st : StQ) {k n : Nat} (h : (inQ q b st k).2.2 = true) (hn : k ≤ n) : inQ q b st n = inQ q b st k := by
  obtain ⟨l, hl⟩ : ∃ l, (nextL q).take n = (nextL q).take k ++ l := ⟨((nextL q).take n).drop k, by
    have := (List.take_append_drop k ((nextL q).take n)).symm
    rwa [List.take_take, Nat.min_eq_left hn] at this⟩
  unfold inQ at h ⊢
  rw [hl, List.foldl_append]
  exact stepQ_done q b _ h l
theorem next_len9 : all9 (fun q => decide ((nextL q).length ≤ 9)) = true := by decide +kernel
theorem inQ_all (q b : Nat) (st : StQ) (h1 : 1 ≤ q) (h2 : q ≤ 9) : inQ q b st (nextL q).length = inQ q b st 9 := by
  have := of_decide_eq_true (all9_of next_len9 h1 h2)
  unfold inQ
  rw [List.take_of_length_le this, List.take_length]
theorem inQ_pre (q b : Nat) (st : StQ) (h : st.2.2 = false) (k : Nat) : ∃ l, (inQ q b st k).2.1 = st.2.1 ++ l ∧ l.length ≤ k := by
  induction k with
  | zero => exact ⟨[], by rw [inQ_zero, List.append_nil], Nat.le_refl _⟩
  | succ k ih =>
    obtain ⟨l, h1, h2⟩ := ih
    cases hs : (nextL q)[k]? with
    | none =>
      refine ⟨l, ?_, by omega⟩
      rw [← h1]
      unfold inQ
      rw [List.take_add_one, hs]
      simp
    | some s =>
      rw [inQ_step q b st k s hs]
      unfold stepQ
      split
      · exact ⟨l, h1, by omega⟩
      · split
        · exact ⟨l, h1, by omega⟩
        · split
          · exact ⟨l, h1, by omega⟩
          · exact ⟨l ++ [s], by rw [h1, List.append_assoc], by rw [List.length_append]; simp; omega⟩
theorem outQ_ok : all9 (fun a => all9 fun b => (List.range 11).all fun i => decide ((outQ a b i).2.1.length ≤ 9) && (outQ a b i).2.1.all fun x => decide (1 ≤ x ∧ x ≤ 9)) = true := by decide +kernel
/-- No round comes behind nine. -/
theorem outQ_end : all9 (fun a => all9 fun b => (outQ a b 10).2.1.isEmpty || (outQ a b 10).2.2) = true := by decide +kernel
theorem idxQ_ok : all9 (fun a => all9 fun b => (List.range 11).all fun i => (outQ a b i).2.2 || (outQ a b i).2.1.isEmpty || idxQ a b ((outQ a b i).2.1.headD 0) == i) = true := by decide +kernel
theorem finQ_ok : all9 (fun a => all9 fun b => (List.range 11).all fun i => (!(outQ a b i).2.2 && !(outQ a b i).2.1.isEmpty) || FinQ a b (outQ a b i).1) = true := by decide +kernel
/-- Whoever is met in the inner rounds: between 1 and 9. -/
theorem next_nine {q s k : Nat} (h1 : 1 ≤ q) (h2 : q ≤ 9) (h : (nextL q)[k]? = some s) : 1 ≤ s ∧ s ≤ 9 :=
  of_decide_eq_true (List.all_eq_true.1 (all9_of next_may h1 h2) s (List.mem_of_getElem? h))
theorem backs_nine : all9 (fun a => all9 fun b => (wayL a b).all fun x => decide (1 ≤ x ∧ x ≤ 9)) = true := by decide +kernel
theorem waylens : all9 (fun a => all9 fun b => decide ((wayL a b).length ≤ 9)) = true := by decide +kernel
section
variable {a b i : Nat} (h1 : 1 ≤ a) (h2 : a ≤ 9) (h3 : 1 ≤ b) (h4 : b ≤ 9)
include h1 h2 h3 h4
theorem outQ_facts (hi : i ≤ 10) : (outQ a b i).2.1.length ≤ 9 ∧ ∀ x ∈ (outQ a b i).2.1, 1 ≤ x ∧ x ≤ 9 := by
  have := List.all_eq_true.1 (all9_of (all9_of outQ_ok h1 h2) h3 h4) i (List.mem_range.2 (by omega))
  simp only [Bool.and_eq_true, decide_eq_true_eq] at this
  exact ⟨this.1, fun x hx => of_decide_eq_true (List.all_eq_true.1 this.2 x hx)⟩
theorem outQ_last (h : (outQ a b 10).2.2 = false) : (outQ a b 10).2.1 = [] := by
  have := all9_of (all9_of outQ_end h1 h2) h3 h4
  rw [h, Bool.or_false, List.isEmpty_iff] at this
  exact this
theorem idxQ_at (hi : i ≤ 10) {z : Nat} {l : List Nat} (hd : (outQ a b i).2.2 = false) (hl : (outQ a b i).2.1 = z :: l) : idxQ a b z = i := by
  have := List.all_eq_true.1 (all9_of (all9_of idxQ_ok h1 h2) h3 h4) i (List.mem_range.2 (by omega))
  rw [hd, hl] at this
  simpa using this
theorem finQ_at (hi : i ≤ 10) (h : (outQ a b i).2.2 = true ∨ (outQ a b i).2.1 = []) : FinQ a b (outQ a b i).1 = true := by
  have := List.all_eq_true.1 (all9_of (all9_of finQ_ok h1 h2) h3 h4) i (List.mem_range.2 (by omega))
  rcases h with h | h
  · rw [h] at this; simpa using this
  · rw [h] at this; simpa using this
theorem way_mem9 : ∀ x ∈ wayL a b, 1 ≤ x ∧ x ≤ 9 := fun x hx => of_decide_eq_true (List.all_eq_true.1 (all9_of (all9_of backs_nine h1 h2) h3 h4) x hx)
theorem way_len9 : (wayL a b).length ≤ 9 := of_decide_eq_true (all9_of (all9_of waylens h1 h2) h3 h4)
end
/-- The rounds still to come, told by the queue's head. -/
noncomputable def measQ (a b : Nat) (o : Value) (w : World) : Nat :=
  match o with
  | .slice (some p) (_ + 1) _ => match w.cell? p with
    | some (.int _ z) => 20 - idxQ a b z.toNat
    | _ => 0
  | _ => 0
theorem measQ_at {w : World} {B : Nat} {v : Value} {z a b : Nat} {l : List Int} (h : QuS w B v ((z : Int) :: l)) : measQ a b v w = 20 - idxQ a b z := by
  obtain ⟨p, n, c, rfl, rfl, _, hc⟩ := h.head
  unfold measQ
  simp only [hc]
  rw [Int.toNat_natCast]
theorem measQ_nil {w : World} {A : Option Addr} {c a b : Nat} : measQ a b (.slice A 0 c) w = 0 := by
  unfold measQ
  cases A <;> rfl
end Go.Proofs.Ythffnepfnadakaa
