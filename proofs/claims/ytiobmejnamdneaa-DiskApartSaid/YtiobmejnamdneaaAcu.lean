/- Acts as cells; versions of a new disk. (Parts of Ldp and Lfu, for a seat without those laws.) -/
import Derived.Test.YtiobmejnamdneaaCda
import Derived.Test.YtiobmejnamdneaaDoz
import Derived.Test.YtiobmejnamdneaaLfp
namespace Go.Proofs.Ytiobmejnamdneaa
open Go.RowKit Go.Maps

theorem infoAct : (Try.prog.info? 34).map (·.size) = some 132 := by kernel_rfl
theorem actC_len {x : ActD} (h : x.s.length = 128) : (actC x).length = 132 := by simp [actC, cellsB_len, h]
theorem act_range {w : World} {b off : Nat} {x : ActD} (h : ActAt w b off x) : w.rangeAt b off (actC x) := fun j u hu => by
  have hl : (cellsB x.s).length = 128 := by rw [cellsB_len, h.in_.sl]
  match j with
  | 0 => simp [actC] at hu; rw [← hu]; exact h.c0
  | 1 => simp [actC] at hu; rw [← hu]; exact h.c1
  | 2 => simp [actC] at hu; rw [← hu]; exact h.c2
  | j + 3 =>
    simp only [actC, List.getElem?_cons_succ] at hu
    have e : off + (j + 3) = off + 3 + j := by omega
    rw [e]
    by_cases hj : j < 128
    · rw [List.getElem?_append_left (by omega)] at hu
      exact h.rs j u hu
    · rw [List.getElem?_append_right (by omega), hl] at hu
      have hj2 : j = 128 := by
        have := (List.getElem?_eq_some_iff.1 hu).1
        simp at this
        omega
      subst hj2
      simp at hu
      rw [← hu]
      exact h.c4
end Go.Proofs.Ytiobmejnamdneaa
