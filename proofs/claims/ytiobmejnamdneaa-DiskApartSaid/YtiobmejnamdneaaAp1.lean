/- Two pairs of disks, the theory: a copy is alike; what the law compares tells whether disks are the same. -/
import Derived.Test.YtiobmejnamdneaaCda
import Derived.Test.YtiobmejnamdneaaRcp
import Derived.Test.YtiobmejnamdneaaOne
namespace Go.Proofs.Ytiobmejnamdneaa
open Go.RowKit Go.Maps

section
variable {d o : DS} {r q : RD} {i : Nat}
theorem Sim.as (h : Sim d r) (k : o.As d) : Sim o r := by
  refine ⟨by rw [k.rd]; exact h.len, fun i hi => ?_, by rw [k.fu, k.lf]; exact h.left, by rw [k.dd]; exact h.dead, by rw [k.lf]; exact h.l0, by rw [k.lf]; exact h.l1⟩
  have hi' : i < d.rd.length := by rw [← k.rd]; exact hi
  have := h.each i hi'
  unfold SimAt at this ⊢
  rw [k.vs i hi', k.rd]
  exact this
/-- A sector of the document's: its first version is what lasts, its last what is read. -/
theorem sim_ends (h : SimAt d r i) : ∃ ss : List (List UInt8), r.V[i]? = some ss ∧ ss ≠ [] ∧ ss.getD 0 [] = d.last i ∧ ss.getD (ss.length - 1) [] = d.rd.getD i [] := by
  rcases h with ⟨h1, h2⟩ | ⟨h1, h2, h3⟩
  · refine ⟨_, h2, by simp, ?_, by simp⟩
    unfold DS.last
    rw [h1]
    rfl
  · refine ⟨_, h2, by intro e; rw [e] at h1; simp at h1, ?_, h3⟩
    unfold DS.last
    cases hv : d.vs i with
    | nil => rw [hv] at h1; simp at h1
    | cons x l => rfl
/-- Same, by what the law compares. -/
theorem like_iff (h : Sim d r) (k : Sim o q) (hl : d.rd.length = o.rd.length) :
    d.Like o ↔ ∀ i, i < d.rd.length → (r.V.getD i []).getD 0 [] = (q.V.getD i []).getD 0 [] ∧ (r.V.getD i []).getD ((r.V.getD i []).length - 1) [] = (q.V.getD i []).getD ((q.V.getD i []).length - 1) [] := by
  have key : ∀ i, i < d.rd.length → ((r.V.getD i []).getD 0 [] = d.last i ∧ (r.V.getD i []).getD ((r.V.getD i []).length - 1) [] = d.rd.getD i []) ∧ ((q.V.getD i []).getD 0 [] = o.last i ∧ (q.V.getD i []).getD ((q.V.getD i []).length - 1) [] = o.rd.getD i []) := fun i hi => by
    obtain ⟨ss, a1, _, a2, a3⟩ := sim_ends (h.each i hi)
    obtain ⟨tt, b1, _, b2, b3⟩ := sim_ends (k.each i (by omega))
    have e1 : r.V.getD i [] = ss := by rw [List.getD_eq_getElem?_getD, a1]; rfl
    have e2 : q.V.getD i [] = tt := by rw [List.getD_eq_getElem?_getD, b1]; rfl
    rw [e1, e2]
    exact ⟨⟨a2, a3⟩, b2, b3⟩
  constructor
  · intro hL i hi
    obtain ⟨⟨a1, a2⟩, b1, b2⟩ := key i hi
    rw [a1, a2, b1, b2, hL.1]
    exact ⟨hL.2 i hi, rfl⟩
  · intro hA
    refine ⟨List.ext_getElem hl fun i h1 h2 => ?_, fun i hi => ?_⟩
    · obtain ⟨⟨a1, a2⟩, b1, b2⟩ := key i h1
      have := (hA i h1).2
      rw [a2, b2, List.getD_eq_getElem?_getD, List.getD_eq_getElem?_getD, List.getElem?_eq_getElem h1, List.getElem?_eq_getElem h2] at this
      exact this
    · obtain ⟨⟨a1, a2⟩, b1, b2⟩ := key i hi
      have := (hA i hi).1
      rw [a1, b1] at this
      exact this
theorem Like.symm (h : d.Like o) : o.Like d := ⟨h.1.symm, fun i hi => (h.2 i (by rw [h.1]; exact hi)).symm⟩
theorem like_as (k : o.As d) : o.Like d := ⟨k.rd, fun i hi => by
  have hi' : i < d.rd.length := by rw [← k.rd]; exact hi
  unfold DS.last
  rw [k.vs i hi', k.rd]⟩
end
end Go.Proofs.Ytiobmejnamdneaa
