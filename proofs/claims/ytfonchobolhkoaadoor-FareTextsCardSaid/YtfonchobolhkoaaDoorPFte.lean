/- FareTexts is true, as a tied card: amounts' texts, and which texts are some amount's; for every number and every text, in whatever memory. Its condition: strconv's powers of ten, bits' and utf8's tables start as the program's text lays them (the card ties them). No others. -/
import Derived.Test.YtfonchobolhkoaaDoorFpp
import Derived.Test.YtfonchobolhkoaaDoorFl3
import Derived.Test.YtfonchobolhkoaaDoorCards
import Derived.Test.YtfonchobolhkoaaDoorTie
namespace Go.Proofs.YtfonchobolhkoaaDoor
open Go.ChangeShapes Go.WideShapes Go.ChangeAt Go.RowKit
open Go.ChangeMaps (open_string)

set_option maxRecDepth 100000 in
theorem lifted_FareTexts (os : Os) (started : os.Started) (H : Type) (enc : TypeId × Value → H) :
    ReturnsInHanded {} Tryd.checked os 9 .any (fun w args => (Rows.fareTextsSpec.pre enc Tryd.prog Tryd.f9 [] false w args ∧ laidMetH Tryd.prog laidF w) ∧ sizedMet enc Tryd.prog Tryd.f9 (OpenSpec.ofChange Rows.fareTextsSpec) false w args) (Rows.fareTextsSpec.post enc Tryd.prog Tryd.f9 false true false false) := by
  refine returns_shaped (C := Tryd.checked) (X := fun w _ => laidMetH Tryd.prog laidF w) (fun _ _ _ hh h => h.of_heap hh) own started (by kernel_rfl) Tryd.func9
    (ChangeSpec.witness_shaped (enc := enc) (C := Tryd.checked) (os := os) (X := fun w _ => laidMetH Tryd.prog laidF w) false (World.laidAll Tryd.prog os laidF) #[.int .i64 0, .string .empty] 8 (World.laidAll_os _ _ _)
      (shapedF os) (by kernel_rfl) (by kernel_rfl) (by kernel_rfl) (laidF_met os _)) ?_
  intro W base args ds gs before hval hW hcnd _ hL _ hS
  have hvk := vok_of_laid hL hS
  have hA0 := hW
  obtain ⟨p, q, hA, hV, _⟩ := hA0
  change DataW.TrodAll enc Tryd.prog W 0 (fun _ => true) true Tryd.f9.params.toList args.toList ds p at hA
  have hval' : ∀ (j : Nat) t v, Tryd.f9.params[j]? = some t → args[j]? = some v → Value.okWide Tryd.prog W .any base t v := hval
  rw [Tryd.params9] at hA hval'
  obtain ⟨v0, vs0, d0, ds0, p0, q0, hargs, rfl, rfl, h0, r0⟩ := trodAll_cons hA
  obtain ⟨v1, vs1, d1, ds1, p1, q1, rfl, rfl, rfl, h1, r1⟩ := trodAll_cons r0
  obtain ⟨rfl, rfl, rfl⟩ := trodAll_nil r1
  obtain rfl : args = #[v0, v1] := by cases args; simp_all
  obtain ⟨n, rfl, rfl, rfl, wf0⟩ := open_int Tryd.underlying2 (hval' 0 2 v0 rfl rfl) h0
  have lo0 := i64_of_wf wf0
  obtain ⟨s, rfl, rfl, rfl, hmax1⟩ := open_string Tryd.underlying9 (hval' 1 9 v1 rfl rfl) h1
  exact (ftexts fareP n lo0.1 lo0.2 s W hvk).mono fun e W' ⟨he, hb⟩ => ⟨_, he, law_post laidOut rfl (by kernel_rfl) rfl Tryd.underlying4 hW rfl (hb.below (Nat.le_refl _) (fun _ _ q => q))⟩

theorem row_FareTexts : Rows.FareTextsSaid :=
  OpenClaim.holds_of_wide 9 Tryd.f9 rfl rfl rfl rfl rfl rfl rfl ⟨rfl, rfl, rfl, rfl, rfl⟩ rfl rfl rfl rfl rfl (by kernel_rfl) Tryd.func9 (by kernel_rfl)
    (of_decide_eq_true (by kernel_rfl)) (by unfold Func.isWrapper; first | (rw [if_pos (by decide +kernel)]; kernel_rfl) | (rw [if_neg (by decide +kernel)]; exact ⟨rfl, rfl⟩))
    (fun os started H enc _ => lifted_FareTexts os started H enc)
theorem proved_FareTexts : Rows.FareTextsCardSaid :=
  Claim7.holds_tied_plain_at .later [] [.data, .data, .data, .data, .pinned] true (true, "58d90061a1bd3886139732f700d63da74b6d6609665a63b865be102c8a3a5b52") true
    row_FareTexts (fun _ h => by cases h) (by kernel_rfl) (fun _ h => by cases h) fareTexts_row_tie rfl ⟨rfl, rfl⟩ (by kernel_rfl) rfl
    (fun f fn hf hfn => by
      obtain rfl : f = 9 := Option.some.inj ((show Tryd.prog.funcNamed "coupon/couponlaw11.FareTexts" = some 9 by kernel_rfl).symm.trans hf) |>.symm
      obtain rfl : fn = Tryd.f9 := (Option.some.inj (Tryd.func9.symm.trans hfn)).symm
      exact ⟨by kernel_rfl, fun j t ht => by
        rw [Tryd.params9] at ht
        have hm : t ∈ [2, 9] := by simpa using Array.mem_of_getElem? ht
        have hall : ([2, 9].all fun u => !Tryd.prog.wantsStandIn u) = true := by kernel_rfl
        exact (show Tryd.prog.wantsStandIn t = false by simpa using List.all_eq_true.1 hall t hm)⟩)
    (by kernel_rfl)
#print axioms proved_FareTexts
end Go.Proofs.YtfonchobolhkoaaDoor
