/- HalfMeans is true: a row is read as it is, whatever stands behind it; and of rows of unlike tags that lie one over the other, half by half, one is told whole, or none; for every list of rows, picks and sectors, in whatever memory. No conditions. -/
import Derived.Test.YtbnegiiombnnaaaNmea
namespace Go.Proofs.Ytbnegiiombnnaaa
open Go.ChangeShapes Go.WideShapes Go.ChangeAt Go.RowKit

set_option maxRecDepth 100000 in
theorem lifted_HalfMeans (os : Os) (started : os.Started) (H : Type) (enc : TypeId × Value → H) :
    ReturnsInHanded {} Try.checked os 5 .any (Rows.halfMeansSpec.pre6 enc Try.prog Try.f5 Rows.halfMeansRow.domain false) (Rows.halfMeansSpec.post enc Try.prog Try.f5 false true false false) := by
  refine returnsInHanded_of_change (C := Try.checked) own started (by kernel_rfl) Try.func5
    (ChangeSpec.witness6 (enc := enc) (C := Try.checked) false ⟨#[], #[.slice none 0 0, .slice none 0 0, .slice none 0 0], []⟩ 8 (by kernel_rfl) (by kernel_rfl) (by kernel_rfl) (by kernel_rfl)) ?_
  intro W base args ds gs before hval hW hcnd _
  have hA0 := hW
  obtain ⟨p, q, hA, hV, _⟩ := hA0
  change DataW.TrodAll enc Try.prog W 0 (fun _ => true) true Try.f5.params.toList args.toList ds p at hA
  have hval' : ∀ (j : Nat) t v, Try.f5.params[j]? = some t → args[j]? = some v → Value.okWide Try.prog W .any base t v := hval
  rw [Try.params5] at hA hval'
  obtain ⟨v0, vs0, d0, ds0, p0, q0, hargs, rfl, rfl, h0, r0⟩ := trodAll_cons hA
  obtain ⟨v1, vs1, d1, ds1, p1, q1, rfl, rfl, rfl, h1, r1⟩ := trodAll_cons r0
  obtain ⟨v2, vs2, d2, ds2, p2, q2, rfl, rfl, rfl, h2, r2⟩ := trodAll_cons r1
  obtain ⟨rfl, rfl, rfl⟩ := trodAll_nil r2
  obtain rfl : args = #[v0, v1, v2] := by cases args; simp_all
  obtain ⟨picks, hp⟩ := open_picks (okWide_slice Try.underlying47 (hval' 1 47 v1 rfl rfl)) h1
  obtain ⟨bs, hbs⟩ := open_secs (okWide_slice Try.underlying27 (hval' 2 27 v2 rfl rfl)) h2
  rcases open_rows (okWide_slice Try.underlying46 (hval' 0 46 v0 rfl rfl)) h0 with ⟨A, cap, rfl⟩ | ⟨b, off, cap, xs, rfl, hl, hx⟩
  · obtain ⟨Ap, cp, rfl, _, _⟩ := hp
    obtain ⟨Ab, cb, rfl, hb1, hb2, _⟩ := hbs
    exact (means_nil W A cap Ap _ cp Ab _ cb (by unfold maxLen at hb2; omega)).mono fun e W' ⟨he, hb⟩ => ⟨_, he, law_post laidOut rfl (by kernel_rfl) rfl Try.underlying4 hW rfl (hb.below (Nat.le_refl _) (fun _ _ q => q))⟩
  · exact (means_some hx hl hp hbs).mono fun e W' ⟨he, hb⟩ => ⟨_, he, law_post laidOut rfl (by kernel_rfl) rfl Try.underlying4 hW rfl (hb.below (Nat.le_refl _) (fun _ _ q => q))⟩

theorem proved_HalfMeans : Rows.HalfMeansSaid :=
  OpenClaim.holds_of_wide 5 Try.f5 rfl rfl rfl rfl rfl rfl rfl ⟨rfl, rfl, rfl, rfl, rfl⟩ rfl rfl rfl rfl rfl (by kernel_rfl) Try.func5 (by kernel_rfl)
    (of_decide_eq_true (by kernel_rfl)) (by unfold Func.isWrapper; first | (rw [if_pos (by decide +kernel)]; kernel_rfl) | (rw [if_neg (by decide +kernel)]; exact ⟨rfl, rfl⟩))
    (fun os started H enc _ => lifted_HalfMeans os started H enc)
#print axioms proved_HalfMeans
end Go.Proofs.Ytbnegiiombnnaaa
