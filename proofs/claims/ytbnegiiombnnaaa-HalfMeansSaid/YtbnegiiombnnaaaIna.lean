/- Whole arrays, walked in a round; what a loop's invariant may speak of. -/
import Derived.Test.YtbnegiiombnnaaaPie
namespace Go.Proofs.Ytbnegiiombnnaaa
open Go.RowKit

section
variable {ops : Array Oper} {rest : List Oper} {o : Oper} {a : Act} {w : World} {Q : Exit → Act → World → Prop} {F : Fence} {n : Nat}
theorem wpListIn_zero (hg : o.guard = none) (t : TypeId) (ho : o.op = .alloc t) {l : List UInt8} (h : ∀ w, (zeroValue t).run Try.prog w = .ok (av l) w)
    (hK : wpListIn F n Try.prog ops Q rest (a.put o.dst (.pointer (some ⟨w.heap.size, 0, none⟩))) (w.alloc (.cells (cellsB l).toArray t))) : wpListIn F n Try.prog ops Q (o :: rest) a w := by
  refine wpListIn_plain hg fun K hK' => ?_
  have hr := alloc_of_zero h w
  have hs : o.semAt F.round a.eval = execOp a.eval o := Oper.semAt_plain F _ _ (fun c h => by rw [ho] at h; cases h)
  unfold Oper.wpIn
  rw [hs]
  unfold execOp
  simp only [ho, Sem.run_bind, hr, Result.andThen_ok, Sem.run_pure, Oper.uponIn]
  exact ⟨fun f hf => by simp [Oper.about, ho] at hf, hK' _ _ hK⟩
theorem wpListIn_store_mid (hgd : o.guard = none) (ty : TypeId) (x y : Operand) (ho : o.op = .store ty x y)
    (b f : Nat) (cells : Array Value) (hx : a.eval x = .pointer (some ⟨b, f, none⟩)) (hy : a.eval y = .agg cells)
    (ht : w.there b f cells.size) (hi : (Try.prog.info? ty).map (·.size) = some cells.size) (h1 : cells.all (·.oneCell') = true)
    (h : wpListIn F n Try.prog ops Q rest (a.put o.dst undef) (w.setCells b f cells.toList)) : wpListIn F n Try.prog ops Q (o :: rest) a w := by
  refine wpListIn_plain hgd fun K hK' => ?_
  have hr := run_storeVar_mid (P := Try.prog) w b f ty cells ht hi h1
  have hs : o.semAt F.round a.eval = execOp a.eval o := Oper.semAt_plain F _ _ (fun c h => by rw [ho] at h; cases h)
  unfold Oper.wpIn
  rw [hs]
  unfold execOp
  simp only [ho, hx, hy, Instr.storeAt, Instr.sureAddr, Sem.run_bind, Sem.run_pure, Result.andThen_ok, hr, Oper.uponIn]
  exact ⟨fun f hf => by simp [Oper.about, ho] at hf, hK' _ _ h⟩
end

theorem blk_own {B g : Nat} {t : TypeId} {cs : Array Value} {W W' : World} {row : Option Nat} (h : Blk W g t cs) (hg : W.grownBy W' row) (hr : ∀ r, row = some r → B ≤ r ∧ ∃ o : Obj, W.heap[r]? = some o ∧ o.isCells = false) : Blk W' g t cs :=
  (hg.block g h.lt (fun e => by
    obtain ⟨_, o, ho, hc⟩ := hr g e.symm
    unfold Blk at h
    rw [h] at ho
    injection ho with ho
    subst ho
    cases hc)).trans h
theorem fr_own {B : Nat} {w0 W W' : World} {row : Option Nat} (h : Fr (fun _ => False) w0 W) (hB : w0.heap.size ≤ B) (hg : W.grownBy W' row) (hr : ∀ r, row = some r → B ≤ r ∧ ∃ o : Obj, W.heap[r]? = some o ∧ o.isCells = false) : Fr (fun _ => False) w0 W' :=
  h.grown hg (fun k e => .inr (Nat.le_trans hB (hr k e).1))
theorem KeepsOthers.setCells (b : Nat) : ∀ (vs : List Value) (f : Nat) (W : World), KeepsOthers W (W.setCells b f vs)
  | [], _, W => KeepsOthers.refl W
  | v :: vs, f, W => (KeepsOthers.setCell W ⟨b, f, none⟩ v).trans (KeepsOthers.setCells b vs (f + 1) _)
theorem Fr.others {W W' : World} (h : Fr (fun _ => False) W W') : KeepsOthers W W' := KeepsOthers.of_grownBy h.grow (fun j o e => by cases e)
/-- A loop's record may turn. -/
theorem frB {F : Nat → Prop} {B : Nat} (hF : ∀ k, B ≤ k → F k) (W : World) (l : Nat) (o o' : Obj) (hl : B ≤ l) (h : W.heap[l]? = some o) : Fr F W (W.putObj l o') :=
  (Fr.refl F W).grown (grownBy_putObj' W l o') (fun k e => by injection e with e; subst e; exact .inl (hF _ hl))
end Go.Proofs.Ytbnegiiombnnaaa
