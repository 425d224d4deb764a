/- WalPlays is true, for every size and every list of steps, in whatever memory: step by step a log answers what the document says, and its sectors are what the chapter says, byte for byte; nothing behind them is written. No conditions. -/
import Derived.Test.YtjdbgojnpnlblaaGreatVyf
namespace Go.Proofs.YtjdbgojnpnlblaaGreat
open Go.ChangeShapes Go.WideShapes Go.ChangeAt Go.RowKit

set_option maxRecDepth 100000 in
theorem lifted_WalPlays (os : Os) (started : os.Started) (H : Type) (enc : TypeId × Value → H) :
    ReturnsInHanded {} Tryz.checked os 4 .any (Rows.walPlaysSpec.pre6 enc Tryz.prog Tryz.f4 Rows.walPlaysRow.domain false) (Rows.walPlaysSpec.post enc Tryz.prog Tryz.f4 false true false false) := by
  refine returnsInHanded_of_change (C := Tryz.checked) own started (by kernel_rfl) Tryz.func4
    (ChangeSpec.witness6 (enc := enc) (C := Tryz.checked) false ⟨#[], #[.int .i64 0, .slice none 0 0], []⟩ 8 (by kernel_rfl) (by kernel_rfl) (by kernel_rfl) (by kernel_rfl)) ?_
  intro W base args ds gs before hval hW hcnd _
  have hA0 := hW
  obtain ⟨p, q, hA, hV, _⟩ := hA0
  change DataW.TrodAll enc Tryz.prog W 0 (fun _ => true) true Tryz.f4.params.toList args.toList ds p at hA
  have hval' : ∀ (j : Nat) t v, Tryz.f4.params[j]? = some t → args[j]? = some v → Value.okWide Tryz.prog W .any base t v := hval
  rw [Tryz.params4] at hA hval'
  obtain ⟨v0, vs0, d0, ds0, p0, q0, hargs, rfl, rfl, h0, r0⟩ := trodAll_cons hA
  obtain ⟨v1, vs1, d1, ds1, p1, q1, rfl, rfl, rfl, h1, r1⟩ := trodAll_cons r0
  obtain ⟨rfl, rfl, rfl⟩ := trodAll_nil r1
  obtain rfl : args = #[v0, v1] := by cases args; simp_all
  obtain ⟨z0, rfl, lo0, hi0⟩ := open_int (okWide_int Tryz.underlying3 (hval' 0 3 v0 rfl rfl)) h0
  obtain ⟨xs1, hl1⟩ := open_steps (okWide_slice Tryz.underlying53 (hval' 1 53 v1 rfl rfl)) h1
  exact (plays_any hl1).mono fun e W' ⟨he, hb⟩ => ⟨_, he, law_post laidOut rfl (by kernel_rfl) rfl Tryz.underlying4 hW rfl (hb.below (Nat.le_refl _) (fun _ _ q => q))⟩

theorem proved_WalPlays : Rows.WalPlaysSaid :=
  OpenClaim.holds_of_wide 4 Tryz.f4 rfl rfl rfl rfl rfl rfl rfl ⟨rfl, rfl, rfl, rfl, rfl⟩ rfl rfl rfl rfl rfl (by kernel_rfl) Tryz.func4 (by kernel_rfl)
    (of_decide_eq_true (by kernel_rfl)) (by unfold Func.isWrapper; first | (rw [if_pos (by decide +kernel)]; kernel_rfl) | (rw [if_neg (by decide +kernel)]; exact ⟨rfl, rfl⟩))
    (fun os started H enc _ => lifted_WalPlays os started H enc)
#print axioms proved_WalPlays
end Go.Proofs.YtjdbgojnpnlblaaGreat
