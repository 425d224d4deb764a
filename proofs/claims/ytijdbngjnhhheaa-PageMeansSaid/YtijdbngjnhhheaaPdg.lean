/- Regions that draw their order, walked by hand (Drg of Disk's seat without sectors). -/
import Derived.Test.YtijdbngjnhhheaaPar
import Derived.OrdersIn
import Derived.OrdersHeld
import Derived.Deep.RegionHeld3
import Derived.RegionTactic
import Derived.StillTailTactics
import Derived.Deep.RegionWith
import Derived.Deep.DeepCutAuto
namespace Go.Proofs.Ytijdbngjnhhheaa
open Go.RowKit

section
variable {P : Program} {ops : Array Oper} {Q : Exit → Act → World → Prop} {md : Region.Mode}
theorem wpOp_of_wp {i : Nat} {o : Oper} {K : Act → World → Prop} {a : Act} {w : World} (ho : ops[i]? = some o) (hw : Region.wanted o (yielded ops a.tmps) = true) (h : o.wp P a w K Q) : wpOp P ops Q i K a w := by
  unfold wpOp
  simp only [ho, hw, if_true]
  exact .inl h
theorem put_some {a : Act} {o : Oper} {d : Tmp} (h : o.dst = some d) (v : Value) : a.put o.dst v = { tmps := a.tmps.setIfInBounds d v, defers := a.defers } := by
  rw [h]; rfl
theorem put_none {a : Act} {o : Oper} (h : o.dst = none) (v : Value) : a.put o.dst v = a := by
  rw [h]; rfl
theorem anyH_take {S : World → Prop} (i : Nat) (d : Tmp) (v : Value) {oi : Oper} {fuel : Nat} {listed : Array Bool} {T : Array Value} {ds : List Deferred} {w : World} (hi : ops[i]? = some oi) (hd : oi.dst = some d)
    (hs : Region.noSelect ops = true) (hf : Region.free md ops listed i = true) (hr : (Region.ready md ops listed).contains i = true)
    (hQ : ∀ c a w, Q (.panic c) (a.put oi.dst v) w → Q (.panic c) a w) (hy : YieldsIf P ops S oi v { tmps := T, defers := ds }) (hS : S w)
    (h : wpAnyH P md ops Q S fuel (listed.setIfInBounds i true) { tmps := T.setIfInBounds d v, defers := ds } w) : wpAnyH P md ops Q S (fuel + 1) listed { tmps := T, defers := ds } w :=
  wpAnyH_take hi hs hf hr hQ hy hS (by rw [put_some hd]; exact h)
theorem wpOp_call {i : Nat} {o : Oper} {K : Act → World → Prop} {T : Array Value} {ds : List Deferred} {w : World} {f : FuncId} {args : Array Value} (d : Tmp) (ho : ops[i]? = some o) (hd : o.dst = some d) (hw : Region.wanted o (yielded ops T) = true)
    (hr : (execOp (Act.eval { tmps := T, defers := ds }) o).run P w = .ok (.enter f args) w) (h : Calls P f args w fun e w' => ∃ v, e = .returned v ∧ K { tmps := T.setIfInBounds d v, defers := ds } w') : wpOp P ops Q i K { tmps := T, defers := ds } w := by
  refine wpOp_of_wp ho hw ?_
  unfold Oper.wp
  rw [hr]
  refine Calls.mono h fun e w' he => ?_
  obtain ⟨v, rfl, hk⟩ := he
  show K (Act.put _ o.dst v) w'
  rw [put_some hd]
  exact hk
theorem wpOp_value {i : Nat} {o : Oper} {K : Act → World → Prop} {T : Array Value} {ds : List Deferred} {w w' : World} (d : Tmp) (v : Value) (ho : ops[i]? = some o) (hd : o.dst = some d) (hw : Region.wanted o (yielded ops T) = true)
    (hr : (execOp (Act.eval { tmps := T, defers := ds }) o).run P w = .ok (.value v) w') (h : K { tmps := T.setIfInBounds d v, defers := ds } w') : wpOp P ops Q i K { tmps := T, defers := ds } w := by
  refine wpOp_of_wp ho hw ?_
  unfold Oper.wp
  rw [hr]
  show K (Act.put _ o.dst v) w'
  rw [put_some hd]
  exact h
theorem wpOp_skip {i : Nat} {o : Oper} {K : Act → World → Prop} {T : Array Value} {ds : List Deferred} {w w' : World} (ho : ops[i]? = some o) (hd : o.dst = none) (hw : Region.wanted o (yielded ops T) = true)
    (hr : (execOp (Act.eval { tmps := T, defers := ds }) o).run P w = .ok .skip w') (h : K { tmps := T, defers := ds } w') : wpOp P ops Q i K { tmps := T, defers := ds } w := by
  refine wpOp_of_wp ho hw ?_
  unfold Oper.wp
  rw [hr]
  show K (Act.put _ o.dst undef) w'
  rw [put_none hd]
  exact h
/-- A store of a whole array. -/
theorem run_store_mid {o : Oper} {a : Act} {w : World} (ty : TypeId) (x y : Operand) (ho : o.op = .store ty x y)
    (b f : Nat) (cells : Array Value) (hx : a.eval x = .pointer (some ⟨b, f, none⟩)) (hy : a.eval y = .agg cells)
    (ht : w.there b f cells.size) (hi : (P.info? ty).map (·.size) = some cells.size) (h1 : cells.all (·.oneCell') = true) : (execOp a.eval o).run P w = .ok .skip (w.setCells b f cells.toList) := by
  have hr := run_storeVar_mid (P := P) w b f ty cells ht hi h1
  unfold execOp
  simp only [ho, hx, hy, Instr.storeAt, Instr.sureAddr, Sem.run_bind, Sem.run_pure, Result.andThen_ok, hr]
end
theorem run_zero_op {o : Oper} {a : Act} {w : World} (t : TypeId) (ho : o.op = .alloc t) {l : List UInt8} (h : ∀ w, (zeroValue t).run Try.prog w = .ok (av l) w) :
    (execOp a.eval o).run Try.prog w = .ok (.value (.pointer (some ⟨w.heap.size, 0, none⟩))) (w.alloc (.cells (cellsB l).toArray t)) := by
  have hr := alloc_of_zero h w
  unfold execOp
  simp only [ho, Sem.run_bind, hr, Result.andThen_ok, Sem.run_pure]
section
variable {P : Program} {ops : Array Oper} {Q : Exit → Act → World → Prop} {md : Region.Mode} {S : World → Prop}

/-- The operation i answers v, in whatever memory of S, and leaves memory of S. -/
def Tame (P : Program) (ops : Array Oper) (Q : Exit → Act → World → Prop) (S : World → Prop) (i : Nat) (d : Tmp) (v : Value) (T : Array Value) (ds : List Deferred) : Prop :=
  ∀ w, S w → ∀ K : Act → World → Prop, (∀ w', S w' → K { tmps := T.setIfInBounds d v, defers := ds } w') → wpOp P ops Q i K { tmps := T, defers := ds } w
theorem tame_call {i : Nat} {o : Oper} {T : Array Value} {ds : List Deferred} {f : FuncId} {args : Array Value} {v : Value} (d : Tmp) (ho : ops[i]? = some o) (hd : o.dst = some d) (hw : Region.wanted o (yielded ops T) = true)
    (hr : ∀ w, S w → (execOp (Act.eval { tmps := T, defers := ds }) o).run P w = .ok (.enter f args) w) (h : ∀ w, S w → Calls P f args w fun e w' => e = .returned v ∧ S w') : Tame P ops Q S i d v T ds := fun w hS K hK =>
  wpOp_call d ho hd hw (hr w hS) ((h w hS).mono fun e w' he => ⟨v, he.1, hK w' he.2⟩)
theorem anyH_one (i : Nat) (d : Tmp) (v : Value) {fuel : Nat} {listed : Array Bool} {T : Array Value} {ds : List Deferred} {w : World} (hr : Region.ready md ops listed = [i])
    (ht : Tame P ops Q S i d v T ds) (hS : S w) (h : ∀ w', S w' → wpAnyH P md ops Q S fuel (listed.setIfInBounds i true) { tmps := T.setIfInBounds d v, defers := ds } w') : wpAnyH P md ops Q S (fuel + 1) listed { tmps := T, defers := ds } w := by
  refine wpAnyH_all hr (by simp) fun j hj => ?_
  obtain rfl := List.mem_singleton.1 hj
  exact ht w hS _ fun w' hS' => ⟨hS', h w' hS'⟩
theorem anyH_two (i j : Nat) (di dj : Tmp) (vi vj : Value) {fuel : Nat} {listed : Array Bool} {T : Array Value} {ds : List Deferred} {w : World} (hij : i ≠ j) (hd : di ≠ dj)
    (hr : Region.ready md ops listed = [i, j]) (hri : Region.ready md ops (listed.setIfInBounds i true) = [j]) (hrj : Region.ready md ops (listed.setIfInBounds j true) = [i])
    (ti : ∀ T', T' = T ∨ T' = T.setIfInBounds dj vj → Tame P ops Q S i di vi T' ds) (tj : ∀ T', T' = T ∨ T' = T.setIfInBounds di vi → Tame P ops Q S j dj vj T' ds) (hS : S w)
    (h : ∀ w', S w' → wpAnyH P md ops Q S fuel ((listed.setIfInBounds i true).setIfInBounds j true) { tmps := (T.setIfInBounds di vi).setIfInBounds dj vj, defers := ds } w') : wpAnyH P md ops Q S (fuel + 1 + 1) listed { tmps := T, defers := ds } w := by
  refine wpAnyH_all hr (by simp) fun q hq => ?_
  simp only [List.mem_cons, List.not_mem_nil, or_false] at hq
  rcases hq with rfl | rfl
  · refine ti T (.inl rfl) w hS _ fun w' hS' => ⟨hS', ?_⟩
    exact anyH_one j dj vj hri (tj _ (.inr rfl)) hS' h
  · refine tj T (.inl rfl) w hS _ fun w' hS' => ⟨hS', ?_⟩
    refine anyH_one i di vi hrj (ti _ (.inr rfl)) hS' fun w'' hS'' => ?_
    have e1 : (listed.setIfInBounds q true).setIfInBounds i true = (listed.setIfInBounds i true).setIfInBounds q true := Array.setIfInBounds_comm _ _ (Ne.symm hij)
    have e2 : (T.setIfInBounds dj vj).setIfInBounds di vi = (T.setIfInBounds di vi).setIfInBounds dj vj := Array.setIfInBounds_comm _ _ (Ne.symm hd)
    rw [e1, e2]
    exact h w'' hS''
end
section
variable {P : Program} {ops : Array Oper} {Q : Exit → Act → World → Prop} {md : Region.Mode} {S : World → Prop}
theorem anyH_value (i : Nat) (d : Tmp) (v : Value) (w' : World) {o : Oper} {fuel : Nat} {listed : Array Bool} {T : Array Value} {ds : List Deferred} {w : World} (hr : Region.ready md ops listed = [i]) (ho : ops[i]? = some o) (hd : o.dst = some d)
    (hw : Region.wanted o (yielded ops T) = true) (hrun : (execOp (Act.eval { tmps := T, defers := ds }) o).run P w = .ok (.value v) w') (hS : S w')
    (h : wpAnyH P md ops Q S fuel (listed.setIfInBounds i true) { tmps := T.setIfInBounds d v, defers := ds } w') : wpAnyH P md ops Q S (fuel + 1) listed { tmps := T, defers := ds } w := by
  refine wpAnyH_all hr (by simp) fun j hj => ?_
  obtain rfl := List.mem_singleton.1 hj
  exact wpOp_value d v ho hd hw hrun ⟨hS, h⟩
theorem anyH_skip (i : Nat) (w' : World) {o : Oper} {fuel : Nat} {listed : Array Bool} {T : Array Value} {ds : List Deferred} {w : World} (hr : Region.ready md ops listed = [i]) (ho : ops[i]? = some o) (hd : o.dst = none)
    (hw : Region.wanted o (yielded ops T) = true) (hrun : (execOp (Act.eval { tmps := T, defers := ds }) o).run P w = .ok .skip w') (hS : S w')
    (h : wpAnyH P md ops Q S fuel (listed.setIfInBounds i true) { tmps := T, defers := ds } w') : wpAnyH P md ops Q S (fuel + 1) listed { tmps := T, defers := ds } w := by
  refine wpAnyH_all hr (by simp) fun j hj => ?_
  obtain rfl := List.mem_singleton.1 hj
  exact wpOp_skip ho hd hw hrun ⟨hS, h⟩
theorem anyH_enter (i : Nat) (d : Tmp) {o : Oper} {fuel : Nat} {listed : Array Bool} {T : Array Value} {ds : List Deferred} {w : World} {f : FuncId} {args : Array Value} (hr : Region.ready md ops listed = [i]) (ho : ops[i]? = some o) (hd : o.dst = some d)
    (hw : Region.wanted o (yielded ops T) = true) (hrun : (execOp (Act.eval { tmps := T, defers := ds }) o).run P w = .ok (.enter f args) w)
    (h : Calls P f args w fun e w' => ∃ v, e = .returned v ∧ S w' ∧ wpAnyH P md ops Q S fuel (listed.setIfInBounds i true) { tmps := T.setIfInBounds d v, defers := ds } w') : wpAnyH P md ops Q S (fuel + 1) listed { tmps := T, defers := ds } w := by
  refine wpAnyH_all hr (by simp) fun j hj => ?_
  obtain rfl := List.mem_singleton.1 hj
  exact wpOp_call d ho hd hw hrun h
end
theorem run_load_mid {P : Program} {o : Oper} {a : Act} {w : World} (ty : TypeId) (x : Operand) (ho : o.op = .load ty x) (b f : Nat) (hx : a.eval x = .pointer (some ⟨b, f, none⟩)) (cs : List Value) (d : TypeDesc) (hr : w.rangeAt b f cs) (hu : P.underlying ty = some d) (hd : d.isRow = true) (hi : (P.info? ty).map (·.size) = some cs.length) :
    (execOp a.eval o).run P w = .ok (.value (.agg cs.toArray)) w := by
  unfold execOp
  simp only [ho, hx, Instr.loadAt, Instr.sureAddr, Sem.run_bind, Sem.run_pure, Result.andThen_ok, run_loadVar_mid w b f ty cs d hr hu hd hi]
end Go.Proofs.Ytijdbngjnhhheaa
