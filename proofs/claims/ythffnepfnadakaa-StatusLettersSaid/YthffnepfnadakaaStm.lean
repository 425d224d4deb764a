/- A region that draws its order and holds calls that make memory: calls whose answer is known whatever memory they meet, one or two of them ready at a time. -/
import Derived.Test.YthffnepfnadakaaSll
namespace Go.Proofs.Ythffnepfnadakaa
open Go.RowKit

section
variable {P : Program} {ops : Array Oper} {Q : Exit → Act → World → Prop} {md : Region.Mode} {S : World → Prop}

/-- The operation i answers v, in whatever memory of S, and leaves memory of S. -/
def Tame (P : Program) (ops : Array Oper) (Q : Exit → Act → World → Prop) (S : World → Prop) (i : Nat) (d : Tmp) (v : Value) (T : Array Value) (ds : List Deferred) : Prop :=
  ∀ w, S w → ∀ K : Act → World → Prop, (∀ w', S w' → K { tmps := T.setIfInBounds d v, defers := ds } w') → wpOp P ops Q i K { tmps := T, defers := ds } w
theorem tame_call {i : Nat} {o : Oper} {T : Array Value} {ds : List Deferred} {f : FuncId} {args : Array Value} {v : Value} (d : Tmp) (ho : ops[i]? = some o) (hd : o.dst = some d) (hw : Region.wanted o (yielded ops T) = true)
    (hr : ∀ w, S w → (execOp (Act.eval { tmps := T, defers := ds }) o).run P w = .ok (.enter f args) w) (h : ∀ w, S w → Calls P f args w fun e w' => e = .returned v ∧ S w') : Tame P ops Q S i d v T ds := fun w hS K hK =>
  wpOp_call d ho hd hw (hr w hS) ((h w hS).mono fun e w' he => ⟨v, he.1, hK w' he.2⟩)
theorem anyH_one (i : Nat) (d : Tmp) (v : Value) {fuel : Nat} {listed : Array Bool} {T : Array Value} {ds : List Deferred} {w : World} (hr : Region.ready md ops listed = [i])
    (ht : Tame P ops Q S i d v T ds) (hS : S w) (h : ∀ w', S w' → wpAnyH P md ops Q S fuel (listed.setIfInBounds i true) { tmps := T.setIfInBounds d v, defers := ds } w') : wpAnyH P md ops Q S (fuel + 1) listed { tmps := T, defers := ds } w := by
  refine wpAnyH_all hr (by simp) fun j hj => ?_
  obtain rfl := List.mem_singleton.1 hj
  exact ht w hS _ fun w' hS' => ⟨hS', h w' hS'⟩
theorem anyH_two (i j : Nat) (di dj : Tmp) (vi vj : Value) {fuel : Nat} {listed : Array Bool} {T : Array Value} {ds : List Deferred} {w : World} (hij : i ≠ j) (hd : di ≠ dj)
    (hr : Region.ready md ops listed = [i, j]) (hri : Region.ready md ops (listed.setIfInBounds i true) = [j]) (hrj : Region.ready md ops (listed.setIfInBounds j true) = [i])
    (ti : ∀ T', T' = T ∨ T' = T.setIfInBounds dj vj → Tame P ops Q S i di vi T' ds) (tj : ∀ T', T' = T ∨ T' = T.setIfInBounds di vi → Tame P ops Q S j dj vj T' ds) (hS : S w)
    (h : ∀ w', S w' → wpAnyH P md ops Q S fuel ((listed.setIfInBounds i true).setIfInBounds j true) { tmps := (T.setIfInBounds di vi).setIfInBounds dj vj, defers := ds } w') : wpAnyH P md ops Q S (fuel + 1 + 1) listed { tmps := T, defers := ds } w := by
  refine wpAnyH_all hr (by simp) fun q hq => ?_
  simp only [List.mem_cons, List.not_mem_nil, or_false] at hq
  rcases hq with rfl | rfl
  · refine ti T (.inl rfl) w hS _ fun w' hS' => ⟨hS', ?_⟩
    exact anyH_one j dj vj hri (tj _ (.inr rfl)) hS' h
  · refine tj T (.inl rfl) w hS _ fun w' hS' => ⟨hS', ?_⟩
    refine anyH_one i di vi hrj (ti _ (.inr rfl)) hS' fun w'' hS'' => ?_
    have e1 : (listed.setIfInBounds q true).setIfInBounds i true = (listed.setIfInBounds i true).setIfInBounds q true := Array.setIfInBounds_comm _ _ (Ne.symm hij)
    have e2 : (T.setIfInBounds dj vj).setIfInBounds di vi = (T.setIfInBounds di vi).setIfInBounds dj vj := Array.setIfInBounds_comm _ _ (Ne.symm hd)
    rw [e1, e2]
    exact h w'' hS''
end
end Go.Proofs.Ythffnepfnadakaa
