/- A region that draws its order, in a round of a range over a function: from the laws for one outside of it. -/
import Derived.Test.YtbnegiiombnnaaaIt
import Derived.OrdersIn
import Derived.OrdersHeld
namespace Go.Proofs.Ytbnegiiombnnaaa
open Go.RowKit

section
variable {P : Program} {ops : Array Oper} {Q : Exit → Act → World → Prop} {md : Region.Mode} {l n : Nat}

def isDefer (o : Oper) : Bool := match o.op with | .defer _ => true | _ => false

theorem opIn_of_wp {o : Oper} {a : Act} {w : World} {K K' : Act → World → Prop} (hd : isDefer o = false) (hlo : ¬ LetsOut Q) (hK : ∀ a w, K a w → K' a w) (h : o.wp P a w K Q) : o.wpIn (Fence.wide.inRound l) n P a w K' Q := by
  have hnd : ∀ c, o.op ≠ .defer c := fun c e => by simp [isDefer, e] at hd
  refine ⟨fun _ _ => trivial, ?_⟩
  have hs : o.semAt (Fence.wide.inRound l).round a.eval = execOp a.eval o := Oper.semAt_plain (Fence.wide.inRound l) _ _ hnd
  rw [hs]
  unfold Oper.wp at h
  generalize (execOp a.eval o).run P w = r at *
  cases r with
  | ok x w' =>
    cases x <;> simp only [Oper.upon] at h <;> simp only [Oper.uponIn]
    case value => exact hK _ _ h
    case skip => exact hK _ _ h
    case defer => exact hK _ _ h
    case enter f args =>
      refine ⟨(fun q => by cases q), CallsIn.inRound l (callsIn_wide.2 (Calls.mono h fun e w'' he => ?_))⟩
      cases e with
      | returned v => exact hK _ _ he
      | panicked c => exact he
      | outgrown => exact he
    case row row args =>
      exact ⟨(fun q => by cases q), fun c cs _ => let ⟨v, w'', r, s⟩ := h c cs; ⟨v, w'', hK _ _ r, stepsIn_wide.2 s⟩⟩
  | halt x w' =>
    cases x <;> simp only [Oper.upon] at h <;> simp only [Oper.uponIn] <;> exact h
theorem opIn_of_op {i : Nat} {a : Act} {w : World} {K K' : Act → World → Prop} (hd : ∀ o, ops[i]? = some o → isDefer o = false) (hlo : ¬ LetsOut Q) (hK : ∀ a w, K a w → K' a w) (h : wpOp P ops Q i K a w) : wpOpIn (Fence.wide.inRound l) n P ops Q i K' a w := by
  unfold wpOp at h
  unfold wpOpIn
  cases ho : ops[i]? with
  | none => simp only [ho] at h ⊢; exact hK _ _ h
  | some o =>
    simp only [ho] at h ⊢
    split
    · rename_i hw
      simp only [hw, if_true] at h
      rcases h with h | h
      · exact opIn_of_wp (hd o ho) hlo hK h
      · exact absurd h.2 hlo
    · rename_i hw
      simp only [hw] at h
      exact ⟨fun _ _ => trivial, hK _ _ h⟩
theorem anyIn_of_any (hd : ∀ (i : Nat) o, ops[i]? = some o → isDefer o = false) (hlo : ¬ LetsOut Q) : ∀ (fuel : Nat) (listed : Array Bool) (a : Act) (w : World), wpAny P md ops Q fuel listed a w → wpAnyIn (Fence.wide.inRound l) n P md ops Q fuel listed a w
  | 0, _, _, _, h => h
  | fuel + 1, listed, a, w, h => ⟨h.1, fun i hi => opIn_of_op (hd i) hlo (fun a' w' h' => anyIn_of_any hd hlo fuel _ a' w' h') (h.2 i hi)⟩
theorem wpOp_of_wp {i : Nat} {o : Oper} {K : Act → World → Prop} {a : Act} {w : World} (ho : ops[i]? = some o) (hw : Region.wanted o (yielded ops a.tmps) = true) (h : o.wp P a w K Q) : wpOp P ops Q i K a w := by
  unfold wpOp
  simp only [ho, hw, if_true]
  exact .inl h
theorem put_some {a : Act} {o : Oper} {d : Tmp} (h : o.dst = some d) (v : Value) : a.put o.dst v = { tmps := a.tmps.setIfInBounds d v, defers := a.defers } := by
  rw [h]; rfl
theorem put_none {a : Act} {o : Oper} (h : o.dst = none) (v : Value) : a.put o.dst v = a := by
  rw [h]; rfl
theorem anyH_take {S : World → Prop} (i : Nat) (d : Tmp) (v : Value) {oi : Oper} {fuel : Nat} {listed : Array Bool} {T : Array Value} {ds : List Deferred} {w : World} (hi : ops[i]? = some oi) (hd : oi.dst = some d)
    (hs : Region.noSelect ops = true) (hf : Region.free md ops listed i = true) (hr : (Region.ready md ops listed).contains i = true)
    (hQ : ∀ c a w, Q (.panic c) (a.put oi.dst v) w → Q (.panic c) a w) (hy : YieldsIf P ops S oi v { tmps := T, defers := ds }) (hS : S w)
    (h : wpAnyH P md ops Q S fuel (listed.setIfInBounds i true) { tmps := T.setIfInBounds d v, defers := ds } w) : wpAnyH P md ops Q S (fuel + 1) listed { tmps := T, defers := ds } w :=
  wpAnyH_take hi hs hf hr hQ hy hS (by rw [put_some hd]; exact h)
theorem wpOp_call {i : Nat} {o : Oper} {K : Act → World → Prop} {T : Array Value} {ds : List Deferred} {w : World} {f : FuncId} {args : Array Value} (d : Tmp) (ho : ops[i]? = some o) (hd : o.dst = some d) (hw : Region.wanted o (yielded ops T) = true)
    (hr : (execOp (Act.eval { tmps := T, defers := ds }) o).run P w = .ok (.enter f args) w) (h : Calls P f args w fun e w' => ∃ v, e = .returned v ∧ K { tmps := T.setIfInBounds d v, defers := ds } w') : wpOp P ops Q i K { tmps := T, defers := ds } w := by
  refine wpOp_of_wp ho hw ?_
  unfold Oper.wp
  rw [hr]
  refine Calls.mono h fun e w' he => ?_
  obtain ⟨v, rfl, hk⟩ := he
  show K (Act.put _ o.dst v) w'
  rw [put_some hd]
  exact hk
theorem wpOp_value {i : Nat} {o : Oper} {K : Act → World → Prop} {T : Array Value} {ds : List Deferred} {w w' : World} (d : Tmp) (v : Value) (ho : ops[i]? = some o) (hd : o.dst = some d) (hw : Region.wanted o (yielded ops T) = true)
    (hr : (execOp (Act.eval { tmps := T, defers := ds }) o).run P w = .ok (.value v) w') (h : K { tmps := T.setIfInBounds d v, defers := ds } w') : wpOp P ops Q i K { tmps := T, defers := ds } w := by
  refine wpOp_of_wp ho hw ?_
  unfold Oper.wp
  rw [hr]
  show K (Act.put _ o.dst v) w'
  rw [put_some hd]
  exact h
theorem wpOp_skip {i : Nat} {o : Oper} {K : Act → World → Prop} {T : Array Value} {ds : List Deferred} {w w' : World} (ho : ops[i]? = some o) (hd : o.dst = none) (hw : Region.wanted o (yielded ops T) = true)
    (hr : (execOp (Act.eval { tmps := T, defers := ds }) o).run P w = .ok .skip w') (h : K { tmps := T, defers := ds } w') : wpOp P ops Q i K { tmps := T, defers := ds } w := by
  refine wpOp_of_wp ho hw ?_
  unfold Oper.wp
  rw [hr]
  show K (Act.put _ o.dst undef) w'
  rw [put_none hd]
  exact h
/-- A store of a whole array. -/
theorem run_store_mid {o : Oper} {a : Act} {w : World} (ty : TypeId) (x y : Operand) (ho : o.op = .store ty x y)
    (b f : Nat) (cells : Array Value) (hx : a.eval x = .pointer (some ⟨b, f, none⟩)) (hy : a.eval y = .agg cells)
    (ht : w.there b f cells.size) (hi : (P.info? ty).map (·.size) = some cells.size) (h1 : cells.all (·.oneCell') = true) : (execOp a.eval o).run P w = .ok .skip (w.setCells b f cells.toList) := by
  have hr := run_storeVar_mid (P := P) w b f ty cells ht hi h1
  unfold execOp
  simp only [ho, hx, hy, Instr.storeAt, Instr.sureAddr, Sem.run_bind, Sem.run_pure, Result.andThen_ok, hr]
/-- **The beginning.** -/
theorem wpIn_round_held {S : World → Prop} {id : Nat} {a : Act} {w : World} (hm : P.follows .mixedOrders = true) (hlo : ¬ LetsOut Q) (hd : ops.all (fun o => !isDefer o) = true)
    (h : wpAnyH P .any ops Q S ops.size (Array.replicate ops.size false) a w.drew) : (Code.region id ops true).wpIn (Fence.wide.inRound l) n P Q a w :=
  wpIn_region_any hm (anyIn_of_any (fun i o ho => by
    have := Array.all_eq_true_iff_forall_mem.1 hd o (Array.mem_of_getElem? ho)
    simpa using this) hlo _ _ _ _ (wpAny_of_held _ _ _ _ h))
end
theorem run_zero_op {o : Oper} {a : Act} {w : World} (t : TypeId) (ho : o.op = .alloc t) {l : List UInt8} (h : ∀ w, (zeroValue t).run Try.prog w = .ok (av l) w) :
    (execOp a.eval o).run Try.prog w = .ok (.value (.pointer (some ⟨w.heap.size, 0, none⟩))) (w.alloc (.cells (cellsB l).toArray t)) := by
  have hr := alloc_of_zero h w
  unfold execOp
  simp only [ho, Sem.run_bind, hr, Result.andThen_ok, Sem.run_pure]
end Go.Proofs.Ytbnegiiombnnaaa
