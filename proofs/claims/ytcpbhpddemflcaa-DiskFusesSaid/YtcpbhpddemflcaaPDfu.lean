/- DiskFuses is true, for every list of acts and every two numbers, in whatever memory: of a disk with a fuse just so many steps are done. No conditions. -/
import Derived.Test.YtcpbhpddemflcaaLfu
import Derived.Test.YtcpbhpddemflcaaLaw
namespace Go.Proofs.Ytcpbhpddemflcaa
open Go.ChangeShapes Go.WideShapes Go.ChangeAt Go.RowKit

set_option maxRecDepth 100000 in
theorem fuses_out {W : World} {v : Value} {xs : List ActD} (h : ActV W v xs) {steps again : Int} (hout : steps < 0 ∨ 60 < steps ∨ again < 0 ∨ fewB xs 60 = false) :
    Calls Try.prog 6 #[.int .i64 steps, v, .int .i64 again] W fun e w' => e = .returned (.bool true) ∧ Fr (fun _ => False) W w' := by
  by_cases h1 : steps < 0
  · go_enter Try.func6, Try.ntmps6
    go_wp2_with fail
    refine (known_any _).mono ?_
    rintro e w1 ⟨rfl, f1⟩
    go_wp2_with fail
    go_ret
    exact ⟨rfl, f1⟩
  · by_cases h2 : 60 < steps
    · have h2' : steps > 60 := h2
      go_enter Try.func6, Try.ntmps6
      go_wp2_with fail
      refine (known_any _).mono ?_
      rintro e w1 ⟨rfl, f1⟩
      go_wp2_with fail
      go_ret
      exact ⟨rfl, f1⟩
    · by_cases h3 : again < 0
      · go_enter Try.func6, Try.ntmps6
        go_wp2_with fail
        refine (known_any _).mono ?_
        rintro e w1 ⟨rfl, f1⟩
        go_wp2_with fail
        go_ret
        exact ⟨rfl, f1⟩
      · have h4 : fewB xs 60 = false := by
          rcases hout with q | q | q | q
          · exact absurd q h1
          · exact absurd q h2
          · exact absurd q h3
          · exact q
        have F1 := few_any h 60
        rw [h4] at F1
        clear hout h h4
        go_enter Try.func6, Try.ntmps6
        go_wp2_with fail
        refine F1.mono ?_
        rintro e w1 ⟨rfl, f1⟩
        clear F1
        go_wp2_with fail
        refine (known_any _).mono ?_
        rintro e w2 ⟨rfl, f2⟩
        go_wp2_with fail
        go_ret
        exact ⟨rfl, f1.trans f2 (fun _ _ q => q)⟩
theorem fuses_all {W : World} {v : Value} {xs : List ActD} (h : ActV W v xs) {steps again : Int} (h1 : again ≤ 9223372036854775807) :
    Calls Try.prog 6 #[.int .i64 steps, v, .int .i64 again] W fun e w' => e = .returned (.bool true) ∧ Fr (fun _ => False) W w' := by
  by_cases hout : steps < 0 ∨ 60 < steps ∨ again < 0 ∨ fewB xs 60 = false
  · exact fuses_out h hout
  · have hf : fewB xs 60 = true := by
      cases hb : fewB xs 60 with
      | true => rfl
      | false => exact absurd (.inr (.inr (.inr hb))) hout
    exact fuses_any h (by omega) (by omega) (by omega) h1 hf

set_option maxRecDepth 100000 in
theorem lifted_DiskFuses (os : Os) (started : os.Started) (H : Type) (enc : TypeId × Value → H) :
    ReturnsInHanded {} Try.checked os 6 .any (Rows.diskFusesSpec.pre6 enc Try.prog Try.f6 Rows.diskFusesRow.domain false) (Rows.diskFusesSpec.post enc Try.prog Try.f6 false true false false) := by
  refine returnsInHanded_of_change (C := Try.checked) own started (by kernel_rfl) Try.func6
    (ChangeSpec.witness6 (enc := enc) (C := Try.checked) false ⟨#[], #[.int .i64 0, .slice none 0 0, .int .i64 0], []⟩ 8 (by kernel_rfl) (by kernel_rfl) (by kernel_rfl) (by kernel_rfl)) ?_
  intro W base args ds gs before hval hW hcnd _
  have hA0 := hW
  obtain ⟨p, q, hA, hV, _⟩ := hA0
  change DataW.TrodAll enc Try.prog W 0 (fun _ => true) true Try.f6.params.toList args.toList ds p at hA
  have hval' : ∀ (j : Nat) t v, Try.f6.params[j]? = some t → args[j]? = some v → Value.okWide Try.prog W .any base t v := hval
  rw [Try.params6] at hA hval'
  obtain ⟨v0, vs0, d0, ds0, p0, q0, hargs, rfl, rfl, h0, r0⟩ := trodAll_cons hA
  obtain ⟨v1, vs1, d1, ds1, p1, q1, rfl, rfl, rfl, h1, r1⟩ := trodAll_cons r0
  obtain ⟨v2, vs2, d2, ds2, p2, q2, rfl, rfl, rfl, h2, r2⟩ := trodAll_cons r1
  obtain ⟨rfl, rfl, rfl⟩ := trodAll_nil r2
  obtain rfl : args = #[v0, v1, v2] := by cases args; simp_all
  obtain ⟨z0, rfl, lo0, hi0⟩ := open_int (okWide_int Try.underlying3 (hval' 0 3 v0 rfl rfl)) h0
  obtain ⟨xs1, ha1⟩ := open_acts (okWide_slice Try.underlying22 (hval' 1 22 v1 rfl rfl)) h1
  obtain ⟨z2, rfl, lo2, hi2⟩ := open_int (okWide_int Try.underlying3 (hval' 2 3 v2 rfl rfl)) h2
  exact (fuses_all ha1 hi2).mono fun e W' ⟨he, hb⟩ => ⟨_, he, law_post laidOut rfl (by kernel_rfl) rfl Try.underlying4 hW rfl (hb.below (Nat.le_refl _) (fun _ _ q => q))⟩

theorem proved_DiskFuses : Rows.DiskFusesSaid :=
  OpenClaim.holds_of_wide 6 Try.f6 rfl rfl rfl rfl rfl rfl rfl ⟨rfl, rfl, rfl, rfl, rfl⟩ rfl rfl rfl rfl rfl (by kernel_rfl) Try.func6 (by kernel_rfl)
    (of_decide_eq_true (by kernel_rfl)) (by unfold Func.isWrapper; first | (rw [if_pos (by decide +kernel)]; kernel_rfl) | (rw [if_neg (by decide +kernel)]; exact ⟨rfl, rfl⟩))
    (fun os started H enc _ => lifted_DiskFuses os started H enc)
#print axioms proved_DiskFuses
end Go.Proofs.Ytcpbhpddemflcaa
