/- Rows of one's own whose elements have two cells. -/
import Derived.Test.YtfonchobolhkoaaDoorFhq
namespace Go.Proofs.YtfonchobolhkoaaDoor
open Go.RowKit

section
variable {α : Type} {a b : α → Value}
def prs (a b : α → Value) : List α → List Value
  | [] => []
  | x :: t => a x :: b x :: prs a b t
theorem prs_len : ∀ l : List α, (prs a b l).length = l.length * 2
  | [] => rfl
  | x :: t => by simp [prs, prs_len t]; omega
theorem prs_app : ∀ l k : List α, prs a b (l ++ k) = prs a b l ++ prs a b k
  | [], k => rfl
  | x :: t, k => by simp [prs, prs_app t k]
theorem prs_get : ∀ (l : List α) (i : Nat) (x : α), l[i]? = some x → (prs a b l)[i * 2]? = some (a x) ∧ (prs a b l)[i * 2 + 1]? = some (b x)
  | [], i, x, h => by simp at h
  | y :: t, 0, x, h => by
    have : y = x := by simpa using h
    subst this
    exact ⟨rfl, rfl⟩
  | y :: t, i + 1, x, h => by
    have h' : t[i]? = some x := by simpa using h
    have := prs_get t i x h'
    rw [show (i + 1) * 2 = i * 2 + 2 by omega, show i * 2 + 2 + 1 = i * 2 + 1 + 2 by omega]
    simpa [prs] using this
theorem prs_set : ∀ (l : List α) (i : Nat) (x : α), prs a b (l.set i x) = ((prs a b l).set (i * 2) (a x)).set (i * 2 + 1) (b x)
  | [], i, x => by simp [prs]
  | y :: t, 0, x => by simp [prs]
  | y :: t, i + 1, x => by
    rw [show (i + 1) * 2 = i * 2 + 2 by omega, show i * 2 + 2 + 1 = i * 2 + 1 + 2 by omega]
    simp [prs, prs_set t i x]
/-- A row of one's own of elements of two cells. -/
def RowP (e : TypeId) (a b : α → Value) (w : World) (B : Nat) (v : Value) (l : List α) : Prop := w.ownsRow B e 2 v l.length (prs a b l)
variable {e : TypeId} {w w' : World} {B : Nat} {v : Value} {l : List α}
theorem RowP.nil (w : World) (B : Nat) : RowP e a b w B (.slice none 0 0) [] := World.ownsRow_nil _ _ _ _
theorem RowP.keep (h : RowP e a b w B v l) {F : Nat → Prop} (f : Fr F w w') (hF : ∀ k, v.ownBlock = some k → ¬ F k) : RowP e a b w' B v l := own_keep h f hF
theorem RowP.keep0 (h : RowP e a b w B v l) (f : Fr (fun _ => False) w w') : RowP e a b w' B v l := own_keep h f (fun _ _ q => q)
theorem RowP.low {k : Nat} (h : RowP e a b w B v l) (hk : v.ownBlock = some k) : B ≤ k := by
  obtain ⟨-, h | ⟨g, c, cs, rfl, h1, -⟩⟩ := h
  · obtain ⟨rfl, -⟩ := h
    cases hk
  · injection hk with hk
    subst hk
    exact h1
theorem RowP.cell {i : Nat} {x : α} (h : RowP e a b w B v l) (hz : l[i]? = some x) : ∃ g cap, v = .slice (some ⟨g, 0, none⟩) l.length cap ∧ w.cell? ⟨g, i * 2, none⟩ = some (a x) ∧ w.cell? ⟨g, i * 2 + 1, none⟩ = some (b x) := by
  obtain ⟨hi, _⟩ := List.getElem?_eq_some_iff.1 hz
  obtain ⟨hu1, hu2⟩ := prs_get (a := a) (b := b) l i x hz
  obtain ⟨h1, ⟨rfl, h0⟩ | ⟨g, cap, cur, rfl, hb, hg, hc1, hc2, hc3, hc4⟩⟩ := h
  · omega
  · refine ⟨g, cap, rfl, ?_, ?_⟩
    · rw [← hc4, List.getElem?_take_of_lt (by omega), Array.getElem?_toList] at hu1
      rw [cell_of_row w g (i * 2) cur _ _ hg]
      exact hu1
    · rw [← hc4, List.getElem?_take_of_lt (by omega), Array.getElem?_toList] at hu2
      rw [cell_of_row w g (i * 2 + 1) cur _ _ hg]
      exact hu2
theorem RowP.slice (h : RowP e a b w B v l) : ∃ A c, v = .slice A l.length c ∧ l.length ≤ maxLen := by
  obtain ⟨h1, ⟨rfl, h0⟩ | ⟨g, cap, cur, rfl, hb, hg, hc1, hc2, hc3, hc4⟩⟩ := h
  · exact ⟨none, 0, by rw [h0], by omega⟩
  · exact ⟨_, cap, rfl, by omega⟩
theorem RowP.frozen {i g n cap : Nat} (h : RowP e a b w B (.slice (some ⟨g, 0, none⟩) n cap) l) : w.frozen? ⟨g, i, none⟩ = false := by
  obtain ⟨h1, ⟨h0, _⟩ | ⟨g', cap', cur, e, hb, hg, _⟩⟩ := h
  · cases h0
  · injection e with e
    injection e with e
    injection e with e
    subst e
    simp [World.frozen?, hg]
/-- The two cells of one element are written. -/
theorem RowP.set {i g n cap : Nat} (h : RowP e a b w B (.slice (some ⟨g, 0, none⟩) n cap) l) (x : α) : RowP e a b ((w.setCell ⟨g, i * 2, none⟩ (a x)).setCell ⟨g, i * 2 + 1, none⟩ (b x)) B (.slice (some ⟨g, 0, none⟩) n cap) (l.set i x) := by
  obtain ⟨h1, ⟨h0, _⟩ | ⟨g', cap', cur, e0, hb, hg, hc1, hc2, hc3, hc4⟩⟩ := h
  · cases h0
  · obtain ⟨e1, e2, e3⟩ : g = g' ∧ n = l.length ∧ cap = cap' := by
      injection e0 with a b c
      injection a with a
      injection a with a
      exact ⟨a, b, c⟩
    subst e1 e3
    have hg2 : (w.setCell ⟨g, i * 2, none⟩ (a x)).heap[g]? = some (.cells (cur.setIfInBounds (i * 2) (a x)) e (0, 0)) := Blk.set_ (w := w) (g := g) (t := e) (cs := cur) hg (i * 2) (a x)
    refine ⟨by rw [prs_len], .inr ⟨g, cap, (cur.setIfInBounds (i * 2) (a x)).setIfInBounds (i * 2 + 1) (b x), by simp [e2], hb, ?_, by simpa using hc1, hc2, by simpa using hc3, ?_⟩⟩
    · exact Blk.set_ (g := g) (t := e) hg2 (i * 2 + 1) (b x)
    · rw [Array.toList_setIfInBounds, Array.toList_setIfInBounds, List.length_set, List.take_set, List.take_set, hc4, prs_set]
/-- The last one is left out: the slice is one shorter. -/
theorem RowP.cut {g n cap : Nat} {x : α} (h : RowP e a b w B (.slice (some ⟨g, 0, none⟩) n cap) (l ++ [x])) : RowP e a b w B (.slice (some ⟨g, 0, none⟩) l.length cap) l := by
  obtain ⟨h1, ⟨h0, _⟩ | ⟨g', cap', cur, e0, hb, hg, hc1, hc2, hc3, hc4⟩⟩ := h
  · cases h0
  · obtain ⟨e1, e2, e3⟩ : g = g' ∧ n = (l ++ [x]).length ∧ cap = cap' := by
      injection e0 with a b c
      injection a with a
      injection a with a
      exact ⟨a, b, c⟩
    subst e1 e3
    rw [List.length_append] at hc1 hc4
    simp only [List.length_singleton] at hc1 hc4
    refine ⟨prs_len l, .inr ⟨g, cap, cur, rfl, hb, hg, by omega, hc2, hc3, ?_⟩⟩
    have : cur.toList.take (l.length * 2) = (cur.toList.take ((l.length + 1) * 2)).take (l.length * 2) := by rw [List.take_take]; congr 1; omega
    rw [this, hc4, prs_app, List.take_append_of_le_length (by rw [prs_len]; exact Nat.le_refl _), List.take_of_length_le (by rw [prs_len]; exact Nat.le_refl _)]
end
end Go.Proofs.YtfonchobolhkoaaDoor
