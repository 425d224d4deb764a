/- WalNil is true: what is answered of logs and disks that are not there, and at the greatest count, in whatever memory it is called. No conditions. -/
import Derived.Test.YtfhcngkejfcjmaaVwn
namespace Go.Proofs.Ytfhcngkejfcjmaa
open Go.ChangeShapes Go.WideShapes Go.ChangeAt Go.RowKit

set_option maxRecDepth 100000 in
theorem lifted_WalNil (os : Os) (started : os.Started) (H : Type) (enc : TypeId × Value → H) :
    ReturnsInHanded {} Try.checked os 5 .any (Rows.walNilSpec.pre6 enc Try.prog Try.f5 Rows.walNilRow.domain false) (Rows.walNilSpec.post enc Try.prog Try.f5 false true false false) := by
  refine returnsInHanded_of_change (C := Try.checked) own started (by kernel_rfl) Try.func5
    (ChangeSpec.witness6 (enc := enc) (C := Try.checked) false ⟨#[], #[], []⟩ 8 (by kernel_rfl) (by kernel_rfl) (by kernel_rfl) (by kernel_rfl)) ?_
  intro W base args ds gs before hval hW hcnd _
  have hA0 := hW
  obtain ⟨p, q, hA, hV, _⟩ := hA0
  change DataW.TrodAll enc Try.prog W 0 (fun _ => true) true Try.f5.params.toList args.toList ds p at hA
  rw [Try.params5] at hA
  obtain ⟨rfl, rfl, rfl⟩ := trodAll_none hA
  refine (nil_any W).mono fun e W' ⟨he, hf⟩ => ⟨_, he, law_post laidOut rfl (by kernel_rfl) rfl Try.underlying4 hW rfl (hf.below (Nat.le_refl _) (fun _ _ q => q))⟩

theorem proved_WalNil : Rows.WalNilSaid :=
  OpenClaim.holds_of_wide 5 Try.f5 rfl rfl rfl rfl rfl rfl rfl ⟨rfl, rfl, rfl, rfl, rfl⟩ rfl rfl rfl rfl rfl (by kernel_rfl) Try.func5 (by kernel_rfl)
    (of_decide_eq_true (by kernel_rfl)) (by unfold Func.isWrapper; first | (rw [if_pos (by decide +kernel)]; kernel_rfl) | (rw [if_neg (by decide +kernel)]; exact ⟨rfl, rfl⟩))
    (fun os started H enc _ => lifted_WalNil os started H enc)
#print axioms proved_WalNil
end Go.Proofs.Ytfhcngkejfcjmaa
