/- PoolLasts is true: wherever the power goes, torn sectors included, and however often, what is opened is the last commit that was answered, or the one on its way, whole; for all numbers of pages, sectors and frames and every list of lives, in whatever memory. No conditions. -/
import Derived.Test.YtcnlgbjkjlbmbaaGreatQll
namespace Go.Proofs.YtcnlgbjkjlbmbaaGreat
open Go.ChangeShapes Go.WideShapes Go.ChangeAt Go.RowKit

set_option maxRecDepth 100000 in
theorem lifted_PoolLasts (os : Os) (started : os.Started) (H : Type) (enc : TypeId × Value → H) :
    ReturnsInHanded {} Tryz.checked os 3 .any (Rows.poolLastsSpec.pre6 enc Tryz.prog Tryz.f3 Rows.poolLastsRow.domain false) (Rows.poolLastsSpec.post enc Tryz.prog Tryz.f3 false true false false) := by
  refine returnsInHanded_of_change (C := Tryz.checked) own started (by kernel_rfl) Tryz.func3
    (ChangeSpec.witness6 (enc := enc) (C := Tryz.checked) false ⟨#[], #[.int .i64 0, .int .i64 0, .int .i64 0, .slice none 0 0], []⟩ 8 (by kernel_rfl) (by kernel_rfl) (by kernel_rfl) (by kernel_rfl)) ?_
  intro W base args ds gs before hval hW hcnd _
  have hA0 := hW
  obtain ⟨p, q, hA, hV, _⟩ := hA0
  change DataW.TrodAll enc Tryz.prog W 0 (fun _ => true) true Tryz.f3.params.toList args.toList ds p at hA
  have hval' : ∀ (j : Nat) t v, Tryz.f3.params[j]? = some t → args[j]? = some v → Value.okWide Tryz.prog W .any base t v := hval
  rw [Tryz.params3] at hA hval'
  obtain ⟨v0, vs0, d0, ds0, p0, q0, hargs, rfl, rfl, h0, r0⟩ := trodAll_cons hA
  obtain ⟨v1, vs1, d1, ds1, p1, q1, rfl, rfl, rfl, h1, r1⟩ := trodAll_cons r0
  obtain ⟨v2, vs2, d2, ds2, p2, q2, rfl, rfl, rfl, h2, r2⟩ := trodAll_cons r1
  obtain ⟨v3, vs3, d3, ds3, p3, q3, rfl, rfl, rfl, h3, r3⟩ := trodAll_cons r2
  obtain ⟨rfl, rfl, rfl⟩ := trodAll_nil r3
  obtain rfl : args = #[v0, v1, v2, v3] := by cases args; simp_all
  obtain ⟨z0, rfl, lo0, hi0⟩ := open_int (okWide_int Tryz.underlying3 (hval' 0 3 v0 rfl rfl)) h0
  obtain ⟨z1, rfl, lo1, hi1⟩ := open_int (okWide_int Tryz.underlying3 (hval' 1 3 v1 rfl rfl)) h1
  obtain ⟨z2, rfl, lo2, hi2⟩ := open_int (okWide_int Tryz.underlying3 (hval' 2 3 v2 rfl rfl)) h2
  obtain ⟨xs3, ha3⟩ := open_lives (okWide_slice Tryz.underlying22 (hval' 3 22 v3 rfl rfl)) h3
  exact (lasts6_any z0 z1 z2 ha3).mono fun e W' ⟨he, hb⟩ => ⟨_, he, law_post laidOut rfl (by kernel_rfl) rfl Tryz.underlying4 hW rfl (hb.below (Nat.le_refl _) (fun _ _ q => q))⟩

theorem proved_PoolLasts : Rows.PoolLastsSaid :=
  OpenClaim.holds_of_wide 3 Tryz.f3 rfl rfl rfl rfl rfl rfl rfl ⟨rfl, rfl, rfl, rfl, rfl⟩ rfl rfl rfl rfl rfl (by kernel_rfl) Tryz.func3 (by kernel_rfl)
    (of_decide_eq_true (by kernel_rfl)) (by unfold Func.isWrapper; first | (rw [if_pos (by decide +kernel)]; kernel_rfl) | (rw [if_neg (by decide +kernel)]; exact ⟨rfl, rfl⟩))
    (fun os started H enc _ => lifted_PoolLasts os started H enc)
#print axioms proved_PoolLasts
end Go.Proofs.YtcnlgbjkjlbmbaaGreat
