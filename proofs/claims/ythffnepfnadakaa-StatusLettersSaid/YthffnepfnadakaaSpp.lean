/- What status' calls answer, of the landed program; what the world's shape says of the library's variable. -/
import Derived.Test.YthffnepfnadakaaSqz
import Derived.Test.YthffnepfnadakaaSqo
import Derived.Test.YthffnepfnadakaaSkn
import Derived.Deep.Strs
namespace Go.Proofs.Ythffnepfnadakaa
open Go.ChangeShapes Go.WideShapes Go.ChangeAt Go.RowKit

theorem statusP : StatusP where
  may := fun n w => (pmay_any n w).mono (fun _ _ h => ⟨h.1, h.2 ▸ Fr.refl _ _⟩)
  last := fun n w => (plast_any n w).mono (fun _ _ h => ⟨h.1, h.2 ▸ Fr.refl _ _⟩)
  live := fun n w => (plive_any n w).mono (fun _ _ h => ⟨h.1, h.2 ▸ Fr.refl _ _⟩)
  leads := fun a b w => (pleads_any a b w).mono (fun _ _ h => ⟨h.1, h.2 ▸ Fr.refl _ _⟩)
  next := pnext_any
  walk := fun _ _ _ hv hl => pwalk_any hv hl
  way := pway_any
  letter := fun n w => (pletter_any n w).mono (fun _ _ ⟨s, h1, h2, h3⟩ => ⟨s, h1, h2, h3 ▸ Fr.refl _ _⟩)
  of_ := fun s w hm _ => (pofs_any s w hm).mono (fun _ _ h => ⟨h.1, h.2 ▸ Fr.refl _ _⟩)
/-- The law of the kit for a row, with the world's shape handed on. -/
theorem returns_shaped6 {H : Type} {enc : TypeId × Value → H} {a : Assume} {C : Checked} {os : Os} {f : FuncId} {fn : Func} {s : ChangeSpec} {conds : List PathCond} {apart fresh handsOn again : Bool}
    (own : ownKnob C.prog.godebug = none) (started : os.Started) (noInit : C.prog.inits.idxOf? f = none) (hfn : C.prog.funcs[f]? = some fn)
    (witness : ∃ (w : World) (tape : Tape) (i : Input), w.os = os ∧ (w.forCall tape i).Shaped C.prog ∧ i.vars = [] ∧ Input.okWide C.prog (w.forCall tape i) .any w.heap.size f i ∧
      s.pre6 enc C.prog fn conds apart (w.forCall tape i).memory i.args ∧ a.holds C.prog (lone (Frame.enter C.prog f i.args .normal) [] (w.forCall tape i)))
    (contract : ∀ (W : World) (base : Nat) (args : Array Value) (ds gs : List (DataW H)) (before : List MemPlace),
      (∀ (j : Nat) t v, fn.params[j]? = some t → args[j]? = some v → Value.okWide C.prog W .any base t v) →
      DataW.Whole enc C.prog fn.params.toList s.vars apart W args.toList ds gs before →
      conds.all (PathCond.test C.prog ⟨fn.params.toList, ds, s.plain.varTypes C.prog, gs⟩) = true →
      a.holds C.prog (lone (Frame.enter C.prog f args .normal) [] W) → W.ShapedOpen C.prog →
      Calls C.prog f args W fun e W' => ∃ v, e = .returned v ∧ s.post enc C.prog fn apart fresh handsOn again W args v W') :
    ReturnsInHanded a C os f .any (s.pre6 enc C.prog fn conds apart) (s.post enc C.prog fn apart fresh handsOn again) := by
  refine returnsInHanded_of_calls own started noInit witness ?_
  intro w tape i _ hsh _ hok hpre hholds
  obtain ⟨_, _, _, fn', hfn', _, _, _, _, hval⟩ := hok
  have e : fn' = fn := Option.some.inj (hfn'.symm.trans hfn)
  subst e
  obtain ⟨⟨ds, gs, before, hw, hc⟩, _⟩ := hpre
  have hw' := DataW.Whole.of_heap (w' := w.forCall tape i) (by rfl) hw
  refine (contract (w.forCall tape i) w.heap.size i.args ds gs before hval hw' hc hholds hsh).mono fun e W' ⟨v, he, hp⟩ => ?_
  subst he
  exact ChangeSpec.post_blind hp
theorem mok_shaped {W : World} (hS : W.ShapedOpen Try.prog) : Mok W := by
  obtain ⟨m, hm⟩ := Try.layIdxM.s1_3 W hS
  exact ⟨m, hm⟩
end Go.Proofs.Ythffnepfnadakaa
