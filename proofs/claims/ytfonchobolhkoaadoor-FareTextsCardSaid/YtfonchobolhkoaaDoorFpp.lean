/- What fare's calls answer, of the landed code; what the laid variables give. -/
import Derived.Test.YtfonchobolhkoaaDoorFdi
import Derived.Test.YtfonchobolhkoaaDoorFo4
import Derived.Deep.Strs
import Derived.Lay
import Derived.Handed
import Derived.Lib.LaidU8
import Derived.SevenTiedAt
namespace Go.Proofs.YtfonchobolhkoaaDoor
open Go.ChangeShapes Go.WideShapes Go.ChangeAt Go.RowKit

theorem fareP : FareP where
  may := fun n w => (pmay_any n w).mono (fun e w' h => ⟨h.1, h.2 ▸ Fr.refl _ _⟩)
  sum := fun _ _ _ hv hl => psum_any hv hl
  deal := fun _ a _ _ h0 h1 hv hl => pdeal_any a h0 h1 hv hl
  rate := prate_any
  take := ptake_any
  text := ptext_any
  of_ := pof_any
/-- The law of the kit for a listed row, with the world's shape handed on. -/
theorem returns_shaped {f : FuncId} {fn : Func} {H : Type} {enc : TypeId × Value → H} {a : Assume} {C : Checked} {os : Os} {s : ChangeSpec} {conds : List PathCond} {apart fresh handsOn again : Bool} {X : World → Array Value → Prop}
    (hX : ∀ (w w' : World) (args : Array Value), w.heap = w'.heap → X w args → X w' args) (own : ownKnob C.prog.godebug = none) (started : os.Started) (noInit : C.prog.inits.idxOf? f = none) (hfn : C.prog.funcs[f]? = some fn)
    (witness : ∃ (w : World) (tape : Tape) (i : Input), w.os = os ∧ (w.forCall tape i).Shaped C.prog ∧ i.vars = [] ∧ Input.okWide C.prog (w.forCall tape i) .any w.heap.size f i ∧ ((s.pre enc C.prog fn conds apart (w.forCall tape i).memory i.args ∧ X (w.forCall tape i).memory i.args) ∧ sizedMet enc C.prog fn (OpenSpec.ofChange s) apart (w.forCall tape i).memory i.args) ∧ a.holds C.prog (lone (Frame.enter C.prog f i.args .normal) [] (w.forCall tape i)))
    (contract : ∀ (W : World) (base : Nat) (args : Array Value) (ds gs : List (DataW H)) (before : List MemPlace), (∀ (j : Nat) t v, fn.params[j]? = some t → args[j]? = some v → Value.okWide C.prog W .any base t v) → DataW.Whole enc C.prog fn.params.toList s.vars apart W args.toList ds gs before →
      conds.all (PathCond.test C.prog ⟨fn.params.toList, ds, s.plain.varTypes C.prog, gs⟩) = true → (DataW.weightsEach C.prog (fn.params.toList ++ s.plain.varTypes C.prog) (ds ++ gs)).all (· ≤ reachBytes) = true → X W args → a.holds C.prog (lone (Frame.enter C.prog f args .normal) [] W) → W.ShapedOpen C.prog →
      Calls C.prog f args W fun e W' => ∃ v, e = .returned v ∧ s.post enc C.prog fn apart fresh handsOn again W args v W') :
    ReturnsInHanded a C os f .any (fun w args => (s.pre enc C.prog fn conds apart w args ∧ X w args) ∧ sizedMet enc C.prog fn (OpenSpec.ofChange s) apart w args) (s.post enc C.prog fn apart fresh handsOn again) := by
  refine returnsInHanded_of_calls own started noInit witness ?_
  intro w tape i _ hsh _ hok hpre hholds
  obtain ⟨_, _, _, fn', hfn', _, _, _, _, hval⟩ := hok
  obtain rfl : fn' = fn := Option.some.inj (hfn'.symm.trans hfn)
  obtain ⟨⟨⟨ds, gs, before, hw, hc⟩, hx⟩, hz⟩ := hpre
  refine (contract (w.forCall tape i) w.heap.size i.args ds gs before hval (DataW.Whole.of_heap (w' := w.forCall tape i) (by rfl) hw) hc (hz.weights hw) (hX _ _ _ (by rfl) hx) hholds hsh).mono fun e W' ⟨v, he, hp⟩ => ?_
  subst he
  exact ChangeSpec.post_blind hp
noncomputable def laidF : List (String × DataW Unit) := Rows.fareDealsRow.laid
theorem laidF_plain (w : World) : laidMetH Tryd.prog laidF w ↔ laidMet Tryd.prog laidF w := by rw [MakeChecks.laidMetH_plain _ _ _ (by kernel_rfl)]
theorem laidF_met (os : Os) (args : Array Value) : laidMetH Tryd.prog laidF ((World.laidAll Tryd.prog os laidF).forCall (fun _ _ => 0) ⟨#[], args, []⟩).memory :=
  (laidF_plain _).2 (laidMet_laidAll _ (by kernel_rfl) (by kernel_rfl))
theorem shapedF (os : Os) {args : Array Value} : ((World.laidAll Tryd.prog os laidF).forCall (fun _ _ => 0) ⟨#[], args, []⟩).Shaped Tryd.prog :=
  World.shaped_of_ZipB (by kernel_rfl) (by kernel_rfl)
theorem tab_pow10 : (Rows.laid_internal_strconv_uint64pow10 : DataW Unit) = Lib.tabData .u64 Lib.pow10Tab := by kernel_rfl
theorem below_tab {w w' : World} (h : Below w.heap.size w w') {n : String} {k : IntKind} {zs : List Int} (ht : Lib.TabIs Tryd.prog w n k zs) : Lib.TabIs Tryd.prog w' n k zs := Lib.tabBelow_of_tabIs ht w' h
theorem vok_of_laid {W : World} (hL : laidMetH Tryd.prog laidF W) (hS : W.ShapedOpen Tryd.prog) : Vok W := by
  have hl := (laidF_plain W).1 hL
  have hm : ("internal/strconv.uint64pow10", (Rows.laid_internal_strconv_uint64pow10 : DataW Unit)) ∈ laidF := by
    unfold laidF Rows.fareDealsRow
    simp
  obtain ⟨g, t, cs, fuel, p, hg, hty, hvar, hd⟩ := Lib.laidMet.reads hl hm
  obtain rfl : g = 2 := Option.some.inj (hg.symm.trans (by kernel_rfl))
  obtain rfl : t = 101 := Option.some.inj (hty.symm.trans (by kernel_rfl))
  rw [tab_pow10] at hd
  have hcs := Lib.cells_of_tab Tryd.underlying101 Tryd.underlying52 (by kernel_rfl) (by kernel_rfl) hd
  have ht : Lib.TabIs Tryd.prog W "internal/strconv.uint64pow10" .u64 Lib.pow10Tab := by
    unfold Lib.TabIs
    rw [hvar, ← hcs]
  obtain ⟨m, hm⟩ := Tryd.layCutM.s1_3 W hS
  have hmc : W.cell? ⟨3, 0, none⟩ = some (.int .i64 m) := hm
  intro W' f
  refine ⟨below_tab (f.below (Nat.le_refl _) (fun _ _ q => q)) ht, m, ?_⟩
  exact (f.cell (World.block_lt_of_cell? W _ hmc) (fun q => q)).trans hmc
end Go.Proofs.YtfonchobolhkoaaDoor
