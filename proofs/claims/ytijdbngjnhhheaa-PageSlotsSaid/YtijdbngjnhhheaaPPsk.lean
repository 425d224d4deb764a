/- PageSlots is true: acts upon other slots leave a slot's record, and a record keeps its slot; for every kind, every two lists of acts and every record, in whatever memory. No conditions. -/
import Derived.Test.YtijdbngjnhhheaaPsk
import Derived.Test.YtijdbngjnhhheaaPop
namespace Go.Proofs.Ytijdbngjnhhheaa
open Go.ChangeShapes Go.WideShapes Go.ChangeAt Go.RowKit

set_option maxRecDepth 100000 in
theorem lifted_PageSlots (os : Os) (started : os.Started) (H : Type) (enc : TypeId × Value → H) :
    ReturnsInHanded {} Try.checked os 5 .any (Rows.pageSlotsSpec.pre6 enc Try.prog Try.f5 Rows.pageSlotsRow.domain false) (Rows.pageSlotsSpec.post enc Try.prog Try.f5 false true false false) := by
  refine returnsInHanded_of_change (C := Try.checked) own started (by kernel_rfl) Try.func5
    (ChangeSpec.witness6 (enc := enc) (C := Try.checked) false ⟨#[], #[.int .i64 0, .slice none 0 0, .slice none 0 0, .slice none 0 0], []⟩ 8 (by kernel_rfl) (by kernel_rfl) (by kernel_rfl) (by kernel_rfl)) ?_
  intro W base args ds gs before hval hW hcnd _
  have hA0 := hW
  obtain ⟨p, q, hA, hV, _⟩ := hA0
  change DataW.TrodAll enc Try.prog W 0 (fun _ => true) true Try.f5.params.toList args.toList ds p at hA
  have hval' : ∀ (j : Nat) t v, Try.f5.params[j]? = some t → args[j]? = some v → Value.okWide Try.prog W .any base t v := hval
  rw [Try.params5] at hA hval'
  obtain ⟨v0, vs0, d0, ds0, p0, q0, hargs, rfl, rfl, h0, r0⟩ := trodAll_cons hA
  obtain ⟨v1, vs1, d1, ds1, p1, q1, rfl, rfl, rfl, h1, r1⟩ := trodAll_cons r0
  obtain ⟨v2, vs2, d2, ds2, p2, q2, rfl, rfl, rfl, h2, r2⟩ := trodAll_cons r1
  obtain ⟨v3, vs3, d3, ds3, p3, q3, rfl, rfl, rfl, h3, r3⟩ := trodAll_cons r2
  obtain ⟨rfl, rfl, rfl⟩ := trodAll_nil r3
  obtain rfl : args = #[v0, v1, v2, v3] := by cases args; simp_all
  obtain ⟨a0, rfl, lo0, hi0⟩ := open_int (okWide_int Try.underlying3 (hval' 0 3 v0 rfl rfl)) h0
  obtain ⟨A2, n2, c2, rfl⟩ := okWide_slice Try.underlying34 (hval' 2 34 v2 rfl rfl)
  obtain ⟨fuel2, hf2⟩ := h2
  obtain ⟨A, n, c, l, hcs, hr, -, hnc, hcm, -⟩ := open_bytes hf2
  have hcs2 : Value.slice A2 n2 c2 = .slice A n c := by simpa [Value.cells] using hcs
  obtain ⟨xs, hx⟩ := open_acts (okWide_slice Try.underlying22 (hval' 1 22 v1 rfl rfl)) h1
  obtain ⟨ys, hy⟩ := open_acts (okWide_slice Try.underlying22 (hval' 3 22 v3 rfl rfl)) h3
  rw [hcs2]
  exact (law_slots hx hy a0 hr.len.symm hr hnc (by simp only [maxLen] at hcm; omega)).mono fun e W' ⟨he, hb⟩ => ⟨_, he, law_post laidOut rfl (by kernel_rfl) rfl Try.underlying4 (hcs2 ▸ hW) rfl (hb.below (Nat.le_refl _) (fun _ _ q => q))⟩

theorem proved_PageSlots : Rows.PageSlotsSaid :=
  OpenClaim.holds_of_wide 5 Try.f5 rfl rfl rfl rfl rfl rfl rfl ⟨rfl, rfl, rfl, rfl, rfl⟩ rfl rfl rfl rfl rfl (by kernel_rfl) Try.func5 (by kernel_rfl)
    (of_decide_eq_true (by kernel_rfl)) (by unfold Func.isWrapper; first | (rw [if_pos (by decide +kernel)]; kernel_rfl) | (rw [if_neg (by decide +kernel)]; exact ⟨rfl, rfl⟩))
    (fun os started H enc _ => lifted_PageSlots os started H enc)
#print axioms proved_PageSlots
end Go.Proofs.Ytijdbngjnhhheaa
