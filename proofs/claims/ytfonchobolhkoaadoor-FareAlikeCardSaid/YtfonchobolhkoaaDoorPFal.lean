/- FareAlike is true, as a tied card: times as great weights and noughts among them change no share; for all arguments, in whatever memory. Its condition: strconv's powers of ten, bits' and utf8's tables start as the program's text lays them (the card ties them). No others. -/
import Derived.Test.YtfonchobolhkoaaDoorFpp
import Derived.Test.YtfonchobolhkoaaDoorFl7
import Derived.Test.YtfonchobolhkoaaDoorCards
import Derived.Test.YtfonchobolhkoaaDoorTie
namespace Go.Proofs.YtfonchobolhkoaaDoor
open Go.ChangeShapes Go.WideShapes Go.ChangeAt Go.RowKit
open Go.ChangeMaps (open_string)

set_option maxRecDepth 100000 in
theorem lifted_FareAlike (os : Os) (started : os.Started) (H : Type) (enc : TypeId × Value → H) :
    ReturnsInHanded {} Tryd.checked os 5 .any (fun w args => (Rows.fareAlikeSpec.pre enc Tryd.prog Tryd.f5 [] false w args ∧ laidMetH Tryd.prog laidF w) ∧ sizedMet enc Tryd.prog Tryd.f5 (OpenSpec.ofChange Rows.fareAlikeSpec) false w args) (Rows.fareAlikeSpec.post enc Tryd.prog Tryd.f5 false true false false) := by
  refine returns_shaped (C := Tryd.checked) (X := fun w _ => laidMetH Tryd.prog laidF w) (fun _ _ _ hh h => h.of_heap hh) own started (by kernel_rfl) Tryd.func5
    (ChangeSpec.witness_shaped (enc := enc) (C := Tryd.checked) (os := os) (X := fun w _ => laidMetH Tryd.prog laidF w) false (World.laidAll Tryd.prog os laidF) #[.int .i64 0, .slice none 0 0, .int .i64 0, .slice none 0 0] 8 (World.laidAll_os _ _ _)
      (shapedF os) (by kernel_rfl) (by kernel_rfl) (by kernel_rfl) (laidF_met os _)) ?_
  intro W base args ds gs before hval hW hcnd _ hL _ hS
  have hvk := vok_of_laid hL hS
  have hA0 := hW
  obtain ⟨p, q, hA, hV, _⟩ := hA0
  change DataW.TrodAll enc Tryd.prog W 0 (fun _ => true) true Tryd.f5.params.toList args.toList ds p at hA
  have hval' : ∀ (j : Nat) t v, Tryd.f5.params[j]? = some t → args[j]? = some v → Value.okWide Tryd.prog W .any base t v := hval
  rw [Tryd.params5] at hA hval'
  obtain ⟨v0, vs0, d0, ds0, p0, q0, hargs, rfl, rfl, h0, r0⟩ := trodAll_cons hA
  obtain ⟨v1, vs1, d1, ds1, p1, q1, rfl, rfl, rfl, h1, r1⟩ := trodAll_cons r0
  obtain ⟨v2, vs2, d2, ds2, p2, q2, rfl, rfl, rfl, h2, r2⟩ := trodAll_cons r1
  obtain ⟨v3, vs3, d3, ds3, p3, q3, rfl, rfl, rfl, h3, r3⟩ := trodAll_cons r2
  obtain ⟨rfl, rfl, rfl⟩ := trodAll_nil r3
  obtain rfl : args = #[v0, v1, v2, v3] := by cases args; simp_all
  obtain ⟨a, rfl, rfl, rfl, wf0⟩ := open_int Tryd.underlying2 (hval' 0 2 v0 rfl rfl) h0
  have lo0 := i64_of_wf wf0
  obtain ⟨zs, hI1, _⟩ := open_i64s (okWide_slice Tryd.underlying22 (hval' 1 22 v1 rfl rfl)) h1
  obtain ⟨t, rfl, rfl, rfl, wf2⟩ := open_int Tryd.underlying2 (hval' 2 2 v2 rfl rfl) h2
  have lo2 := i64_of_wf wf2
  obtain ⟨ps, hI3, _⟩ := open_ints (okWide_slice Tryd.underlying35 (hval' 3 35 v3 rfl rfl)) h3
  exact (falike fareP a t lo0.1 lo0.2 hI1 hI3 hvk).mono fun e W' ⟨he, hb⟩ => ⟨_, he, law_post laidOut rfl (by kernel_rfl) rfl Tryd.underlying4 hW rfl (hb.below (Nat.le_refl _) (fun _ _ q => q))⟩

theorem row_FareAlike : Rows.FareAlikeSaid :=
  OpenClaim.holds_of_wide 5 Tryd.f5 rfl rfl rfl rfl rfl rfl rfl ⟨rfl, rfl, rfl, rfl, rfl⟩ rfl rfl rfl rfl rfl (by kernel_rfl) Tryd.func5 (by kernel_rfl)
    (of_decide_eq_true (by kernel_rfl)) (by unfold Func.isWrapper; first | (rw [if_pos (by decide +kernel)]; kernel_rfl) | (rw [if_neg (by decide +kernel)]; exact ⟨rfl, rfl⟩))
    (fun os started H enc _ => lifted_FareAlike os started H enc)
theorem proved_FareAlike : Rows.FareAlikeCardSaid :=
  Claim7.holds_tied_plain_at .later [] [.data, .data, .data, .data, .pinned] true (true, "58d90061a1bd3886139732f700d63da74b6d6609665a63b865be102c8a3a5b52") true
    row_FareAlike (fun _ h => by cases h) (by kernel_rfl) (fun _ h => by cases h) fareAlike_row_tie rfl ⟨rfl, rfl⟩ (by kernel_rfl) rfl
    (fun f fn hf hfn => by
      obtain rfl : f = 5 := Option.some.inj ((show Tryd.prog.funcNamed "coupon/couponlaw11.FareAlike" = some 5 by kernel_rfl).symm.trans hf) |>.symm
      obtain rfl : fn = Tryd.f5 := (Option.some.inj (Tryd.func5.symm.trans hfn)).symm
      exact ⟨by kernel_rfl, fun j t ht => by
        rw [Tryd.params5] at ht
        have hm : t ∈ [2, 22, 2, 35] := by simpa using Array.mem_of_getElem? ht
        have hall : ([2, 22, 2, 35].all fun u => !Tryd.prog.wantsStandIn u) = true := by kernel_rfl
        exact (show Tryd.prog.wantsStandIn t = false by simpa using List.all_eq_true.1 hall t hm)⟩)
    (by kernel_rfl)
#print axioms proved_FareAlike
end Go.Proofs.YtfonchobolhkoaaDoor
