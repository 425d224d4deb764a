/- Nra: laid together out of It Ina Tgl. -/
import Derived.Test.YtchofmncinbmcaaNpp
import Derived.RangeFuncNested
import Derived.RangeFuncBound
import Derived.RangeFuncCalls
import Derived.RangeFuncLeaves
import Derived.RangeFuncBox
import Derived.WalkKit
import Derived.OwnWalkIn
import Derived.TacticsInMore
import Derived.LoopNIn
import Derived.LoopIn
import Derived.Laws.CopyOwn
namespace Go.Proofs.Ytchofmncinbmcaa
open Go.RowKit
attribute [local go_sem] Oper.semAt_some

set_option maxRecDepth 100000 in
theorem Fr.grow {w w' : World} (h : Fr (fun _ => False) w w') : w.grownBy w' none := ⟨h.os, h.tape, h.output, h.size, fun k hk _ => h.block k hk id⟩

section
variable {ops : Array Oper} {rest : List Oper} {op : Oper} {a : Act} {w : World} {Q : Exit → Act → World → Prop} {F : Fence} {n : Nat} {P : Program}
set_option maxRecDepth 100000 in
theorem wpListIn_load_mid (hgd : op.guard = none) (ty : TypeId) (x : Operand) (ho : op.op = .load ty x)
    (b o : Nat) (hx : a.eval x = .pointer (some ⟨b, o, none⟩)) (cs : List Value) (d : TypeDesc) (hc : w.rangeAt b o cs)
    (hu : P.underlying ty = some d) (hd : d.isRow = true) (hi : (P.info? ty).map (·.size) = some cs.length)
    (h : wpListIn F n P ops Q rest (a.put op.dst (.agg cs.toArray)) w) : wpListIn F n P ops Q (op :: rest) a w := by
  refine wpListIn_plain hgd fun K hK => ?_
  have hl := run_loadVar_mid w b o ty cs d hc hu hd hi
  have hs : op.semAt F.round a.eval = execOp a.eval op := Oper.semAt_plain F _ _ (fun c h => by rw [ho] at h; cases h)
  unfold Oper.wpIn
  rw [hs]
  unfold execOp
  simp only [ho, hx, Instr.loadAt, Instr.sureAddr, Sem.run_bind, Sem.run_pure, Result.andThen_ok, hl, Oper.uponIn]
  refine ⟨fun f hf => ?_, hK _ _ h⟩
  simp [Oper.about, ho] at hf
end

end Go.Proofs.Ytchofmncinbmcaa

namespace Go.Proofs.Ytchofmncinbmcaa
open Go.RowKit

section
variable {ops : Array Oper} {rest : List Oper} {o : Oper} {a : Act} {w : World} {Q : Exit → Act → World → Prop} {F : Fence} {n : Nat}
end

set_option maxRecDepth 100000 in
theorem blk_own {B g : Nat} {t : TypeId} {cs : Array Value} {W W' : World} {row : Option Nat} (h : Blk W g t cs) (hg : W.grownBy W' row) (hr : ∀ r, row = some r → B ≤ r ∧ ∃ o : Obj, W.heap[r]? = some o ∧ o.isCells = false) : Blk W' g t cs :=
  (hg.block g h.lt (fun e => by
    obtain ⟨_, o, ho, hc⟩ := hr g e.symm
    unfold Blk at h
    rw [h] at ho
    injection ho with ho
    subst ho
    cases hc)).trans h
set_option maxRecDepth 100000 in
theorem fr_own {B : Nat} {w0 W W' : World} {row : Option Nat} (h : Fr (fun _ => False) w0 W) (hB : w0.heap.size ≤ B) (hg : W.grownBy W' row) (hr : ∀ r, row = some r → B ≤ r ∧ ∃ o : Obj, W.heap[r]? = some o ∧ o.isCells = false) : Fr (fun _ => False) w0 W' :=
  h.grown hg (fun k e => .inr (Nat.le_trans hB (hr k e).1))
set_option maxRecDepth 100000 in
theorem Fr.others {W W' : World} (h : Fr (fun _ => False) W W') : KeepsOthers W W' := KeepsOthers.of_grownBy h.grow (fun j o e => by cases e)
set_option maxRecDepth 100000 in
/-- A loop's record may turn. -/
theorem frB {F : Nat → Prop} {B : Nat} (hF : ∀ k, B ≤ k → F k) (W : World) (l : Nat) (o o' : Obj) (hl : B ≤ l) (h : W.heap[l]? = some o) : Fr F W (W.putObj l o') :=
  (Fr.refl F W).grown (grownBy_putObj' W l o') (fun k e => by injection e with e; subst e; exact .inl (hF _ hl))
end Go.Proofs.Ytchofmncinbmcaa

namespace Go.Proofs.Ytchofmncinbmcaa
open Go.RowKit
attribute [local go_sem] Oper.semAt_some

section
variable {ops : Array Oper} {rest : List Oper} {op : Oper} {a : Act} {w : World} {Q : Exit → Act → World → Prop} {F : Fence} {n : Nat}
end

set_option maxRecDepth 100000 in
theorem row_own {B base e size k : Nat} {v : Value} {xs : List Value} {W W' : World} {row : Option Nat} (h : W.ownsRow base e size v k xs) (hg : W.grownBy W' row) (hr : ∀ r, row = some r → B ≤ r ∧ ∃ o : Obj, W.heap[r]? = some o ∧ o.isCells = false) : W'.ownsRow base e size v k xs := by
  refine h.kept hg ?_
  rcases h.2 with ⟨rfl, _⟩ | ⟨g, cap, cur, rfl, _, hgb, _⟩
  · exact .inl rfl
  · refine .inr fun e' => ?_
    obtain ⟨_, o, ho, hc⟩ := hr g (by rw [← e']; rfl)
    rw [hgb] at ho
    cases ho
    cases hc

set_option maxRecDepth 100000 in
/-- Behind the turn of the block for deferred calls. -/
theorem fin_put {w X : World} {D B : Nat} {ds : Option (List Deferred)} (hK : X.heap[D]? = some (.deferred ds)) (hD : B ≤ D) (hB : w.heap.size ≤ B) (hf : Fr (fun _ => False) w X) :
    Fr (fun _ => False) w (X.putObj D (.deferred none)) ∧ (∀ {g : Nat} {t : TypeId} {cs : Array Value}, Blk X g t cs → Blk (X.putObj D (.deferred none)) g t cs) ∧ (∀ {base e size k : Nat} {v : Value} {xs : List Value}, X.ownsRow base e size v k xs → (X.putObj D (.deferred none)).ownsRow base e size v k xs) := by
  have hg := grownBy_putObj' X D (.deferred none)
  have hr : ∀ r, some D = some r → B ≤ r ∧ ∃ o : Obj, X.heap[r]? = some o ∧ o.isCells = false := fun r e => by
    injection e with e
    subst e
    exact ⟨hD, _, hK, rfl⟩
  exact ⟨fr_own hf hB hg hr, fun h => blk_own h hg hr, fun h => row_own h hg hr⟩

end Go.Proofs.Ytchofmncinbmcaa

