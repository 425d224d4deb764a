/- WireNil is true: what writers and readers that are not there, and zero ones, answer, in whatever memory it is called. No conditions. -/
import Derived.Test.YthmjfbefekicdaaNil
import Derived.Test.YthmjfbefekicdaaLaw
namespace Go.Proofs.Ythmjfbefekicdaa
open Go.ChangeShapes Go.WideShapes Go.ChangeAt Go.RowKit

set_option maxRecDepth 100000 in
theorem lifted_WireNil (os : Os) (started : os.Started) (H : Type) (enc : TypeId × Value → H) :
    ReturnsInHanded {} Try.checked os 10 .any (Rows.wireNilSpec.pre6 enc Try.prog Try.f10 Rows.wireNilRow.domain false) (Rows.wireNilSpec.post enc Try.prog Try.f10 false true false false) := by
  refine returnsInHanded_of_change (C := Try.checked) own started (by kernel_rfl) Try.func10
    (ChangeSpec.witness6 (enc := enc) (C := Try.checked) false ⟨#[], #[], []⟩ 8 (by kernel_rfl) (by kernel_rfl) (by kernel_rfl) (by kernel_rfl)) ?_
  intro W base args ds gs before hval hW hcnd _
  have hA0 := hW
  obtain ⟨p, q, hA, hV, _⟩ := hA0
  change DataW.TrodAll enc Try.prog W 0 (fun _ => true) true Try.f10.params.toList args.toList ds p at hA
  rw [Try.params10] at hA
  obtain ⟨rfl, rfl, rfl⟩ := trodAll_none hA
  refine (law_WireNil W).mono fun e W' ⟨he, hb⟩ => ⟨_, he, law_post laidOut rfl (by rw [Try.params10]; simp) rfl Try.underlying4 hW rfl hb⟩

theorem proved_WireNil : Rows.WireNilSaid :=
  OpenClaim.holds_of_wide 10 Try.f10 rfl rfl rfl rfl rfl rfl rfl ⟨rfl, rfl, rfl, rfl, rfl⟩ rfl rfl rfl rfl rfl (by kernel_rfl) Try.func10 (by kernel_rfl)
    (of_decide_eq_true (by kernel_rfl)) (by unfold Func.isWrapper; first | (rw [if_pos (by decide +kernel)]; kernel_rfl) | (rw [if_neg (by decide +kernel)]; exact ⟨rfl, rfl⟩))
    (fun os started H enc _ => lifted_WireNil os started H enc)
#print axioms proved_WireNil
end Go.Proofs.Ythmjfbefekicdaa
