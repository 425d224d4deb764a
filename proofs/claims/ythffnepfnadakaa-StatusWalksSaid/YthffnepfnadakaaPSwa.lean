/- StatusWalks is true: a walk is right or wrong, and where; for every row of statuses, in whatever memory. No conditions. -/
import Derived.Test.YthffnepfnadakaaSpp
import Derived.Test.YthffnepfnadakaaSl2
namespace Go.Proofs.Ythffnepfnadakaa
open Go.ChangeShapes Go.WideShapes Go.ChangeAt Go.RowKit
open Go.ChangeMaps (open_string)

set_option maxRecDepth 100000 in
theorem lifted_StatusWalks (os : Os) (started : os.Started) (H : Type) (enc : TypeId × Value → H) :
    ReturnsInHanded {} Try.checked os 4 .any (Rows.statusWalksSpec.pre6 enc Try.prog Try.f4 Rows.statusWalksRow.domain false) (Rows.statusWalksSpec.post enc Try.prog Try.f4 false true false false) := by
  refine returnsInHanded_of_change (C := Try.checked) own started (by kernel_rfl) Try.func4
    (ChangeSpec.witness6 (enc := enc) (C := Try.checked) false ⟨#[], #[.slice none 0 0], []⟩ 8 (by kernel_rfl) (by kernel_rfl) (by kernel_rfl) (by kernel_rfl)) ?_
  intro W base args ds gs before hval hW hcnd _
  have hA0 := hW
  obtain ⟨p, q, hA, hV, _⟩ := hA0
  change DataW.TrodAll enc Try.prog W 0 (fun _ => true) true Try.f4.params.toList args.toList ds p at hA
  have hval' : ∀ (j : Nat) t v, Try.f4.params[j]? = some t → args[j]? = some v → Value.okWide Try.prog W .any base t v := hval
  rw [Try.params4] at hA hval'
  obtain ⟨v0, vs0, d0, ds0, p0, q0, hargs, rfl, rfl, h0, r0⟩ := trodAll_cons hA
  obtain ⟨rfl, rfl, rfl⟩ := trodAll_nil r0
  obtain rfl : args = #[v0] := by cases args; simp_all
  obtain ⟨zs, hI0, _⟩ := open_sts (okWide_slice Try.underlying25 (hval' 0 25 v0 rfl rfl)) h0
  exact (swalks statusP hI0).mono fun e W' ⟨he, hb⟩ => ⟨_, he, law_post laidOut rfl (by kernel_rfl) rfl Try.underlying4 hW rfl (hb.below (Nat.le_refl _) (fun _ _ q => q))⟩

theorem proved_StatusWalks : Rows.StatusWalksSaid :=
  OpenClaim.holds_of_wide 4 Try.f4 rfl rfl rfl rfl rfl rfl rfl ⟨rfl, rfl, rfl, rfl, rfl⟩ rfl rfl rfl rfl rfl (by kernel_rfl) Try.func4 (by kernel_rfl)
    (of_decide_eq_true (by kernel_rfl)) (by unfold Func.isWrapper; first | (rw [if_pos (by decide +kernel)]; kernel_rfl) | (rw [if_neg (by decide +kernel)]; exact ⟨rfl, rfl⟩))
    (fun os started H enc _ => lifted_StatusWalks os started H enc)
#print axioms proved_StatusWalks
end Go.Proofs.Ythffnepfnadakaa
