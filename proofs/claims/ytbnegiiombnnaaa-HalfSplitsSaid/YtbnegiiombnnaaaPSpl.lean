/- HalfSplits is true: how many sectors a row needs, which tags may be, and what a row is; for every tag, all bytes and every number, in whatever memory. No conditions. -/
import Derived.Test.YtbnegiiombnnaaaLspl
import Derived.Test.YtbnegiiombnnaaaRop
namespace Go.Proofs.Ytbnegiiombnnaaa
open Go.ChangeShapes Go.WideShapes Go.ChangeAt Go.RowKit

theorem open_tag {H : Type} {enc : TypeId × Value → H} {w : World} {v : Value} {d : DataW H} {p : List MemPlace} (hval : ∃ cs, v = .agg cs ∧ cs.size = Try.prog.cellsOf 24) (h : DataW.Trod enc Try.prog w 0 (fun _ => true) true 24 v d p) :
    ∃ (c : Nat) (n : Int), v = .agg #[.int .u64 c, .int .i64 n] ∧ c < 18446744073709551616 := by
  obtain ⟨⟨l⟩, rfl, hs⟩ := hval
  obtain ⟨fuel, hf⟩ := h
  rw [cells24] at hs
  match l, hs with
  | [c0, c1], _ =>
    have hf' : DataW.trod enc Try.prog w 0 (fun _ => true) true fuel 24 [c0, c1] = some (d, p) := hf
    obtain ⟨z0, z1, n', _, _, s0, s1⟩ := trod_struct2 und24 hf'
    simp only [cells3, cells22, List.drop_zero, List.drop_succ_cons, List.take_succ_cons, List.take_zero] at s0 s1
    obtain ⟨u, e0, _, wu⟩ := DataW.trod_int Try.underlying22 s0
    obtain ⟨z, e1, _, wz⟩ := DataW.trod_int Try.underlying3 s1
    obtain ⟨nn, rfl, hn⟩ := nat_of_wf wu
    injection e0 with e0
    injection e1 with e1
    subst e0 e1
    exact ⟨nn, z, rfl, hn⟩

set_option maxRecDepth 100000 in
theorem lifted_HalfSplits (os : Os) (started : os.Started) (H : Type) (enc : TypeId × Value → H) :
    ReturnsInHanded {} Try.checked os 3 .any (Rows.halfSplitsSpec.pre6 enc Try.prog Try.f3 Rows.halfSplitsRow.domain false) (Rows.halfSplitsSpec.post enc Try.prog Try.f3 false true false false) := by
  refine returnsInHanded_of_change (C := Try.checked) own started (by kernel_rfl) Try.func3
    (ChangeSpec.witness6 (enc := enc) (C := Try.checked) false ⟨#[], #[.agg #[.int .u64 0, .int .i64 0], .slice none 0 0, .int .i64 0], []⟩ 8 (by kernel_rfl) (by kernel_rfl) (by kernel_rfl) (by kernel_rfl)) ?_
  intro W base args ds gs before hval hW hcnd _
  have hA0 := hW
  obtain ⟨p, q, hA, hV, _⟩ := hA0
  change DataW.TrodAll enc Try.prog W 0 (fun _ => true) true Try.f3.params.toList args.toList ds p at hA
  have hval' : ∀ (j : Nat) t v, Try.f3.params[j]? = some t → args[j]? = some v → Value.okWide Try.prog W .any base t v := hval
  rw [Try.params3] at hA hval'
  obtain ⟨v0, vs0, d0, ds0, p0, q0, hargs, rfl, rfl, h0, r0⟩ := trodAll_cons hA
  obtain ⟨v1, vs1, d1, ds1, p1, q1, rfl, rfl, rfl, h1, r1⟩ := trodAll_cons r0
  obtain ⟨v2, vs2, d2, ds2, p2, q2, rfl, rfl, rfl, h2, r2⟩ := trodAll_cons r1
  obtain ⟨rfl, rfl, rfl⟩ := trodAll_nil r2
  obtain rfl : args = #[v0, v1, v2] := by cases args; simp_all
  obtain ⟨c, n, rfl, hc⟩ := open_tag (okWide_struct und24 (hval' 0 24 v0 rfl rfl)) h0
  obtain ⟨a, m, cb, rfl⟩ := okWide_slice Try.underlying25 (hval' 1 25 v1 rfl rfl)
  obtain ⟨fuel, hf⟩ := h1
  obtain ⟨A', n', c', b, hcs, hr, hA', hnc, hcm, hlt⟩ := open_bytes hf
  simp [Value.cells] at hcs
  obtain ⟨rfl, rfl, rfl⟩ := hcs
  obtain ⟨z, rfl⟩ := okWide_int Try.underlying3 (hval' 2 3 v2 rfl rfl)
  exact (splits_any hr (by unfold maxLen at hcm; omega) c hc n z).mono fun e W' ⟨he, hb⟩ => ⟨_, he, law_post laidOut rfl (by kernel_rfl) rfl Try.underlying4 hW rfl (hb.below (Nat.le_refl _) (fun _ _ q => q))⟩

theorem proved_HalfSplits : Rows.HalfSplitsSaid :=
  OpenClaim.holds_of_wide 3 Try.f3 rfl rfl rfl rfl rfl rfl rfl ⟨rfl, rfl, rfl, rfl, rfl⟩ rfl rfl rfl rfl rfl (by kernel_rfl) Try.func3 (by kernel_rfl)
    (of_decide_eq_true (by kernel_rfl)) (by unfold Func.isWrapper; first | (rw [if_pos (by decide +kernel)]; kernel_rfl) | (rw [if_neg (by decide +kernel)]; exact ⟨rfl, rfl⟩))
    (fun os started H enc _ => lifted_HalfSplits os started H enc)
#print axioms proved_HalfSplits
end Go.Proofs.Ytbnegiiombnnaaa
