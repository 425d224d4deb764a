/- DiskPlays is true, for every number of sectors and every list of acts, in whatever memory: the program's disk answers as the document's, act by act. No conditions. -/
import Derived.Test.YtcpbhpddemflcaaLdp
import Derived.Test.YtcpbhpddemflcaaLaw
namespace Go.Proofs.Ytcpbhpddemflcaa
open Go.ChangeShapes Go.WideShapes Go.ChangeAt Go.RowKit

set_option maxRecDepth 100000 in
theorem plays_mid {W : World} {v : Value} {z : Int} (h1 : 20 < z) (h2 : z ≤ 8192) :
    Calls Try.prog 3 #[.int .i64 z, v] W fun e w' => e = .returned (.bool true) ∧ Fr (fun _ => False) W w' := by
  have h1' : z > 20 := h1
  go_enter Try.func3, Try.ntmps3
  go_wp2_with fail
  refine (known_any _).mono ?_
  rintro e w2 ⟨rfl, f2⟩
  go_wp2_with fail
  go_ret
  exact ⟨rfl, f2⟩
set_option maxRecDepth 100000 in
theorem plays_many {W : World} {v : Value} {xs : List ActD} (h : ActV W v xs) {z : Int} (hm : ¬ (20 < z ∧ z ≤ 8192)) (hf : fewB xs 60 = false) :
    Calls Try.prog 3 #[.int .i64 z, v] W fun e w' => e = .returned (.bool true) ∧ Fr (fun _ => False) W w' := by
  have F1 := few_any h 60
  rw [hf] at F1
  clear h hf
  by_cases h1 : 20 < z
  · have h2 : ¬ z ≤ 8192 := fun q => hm ⟨h1, q⟩
    have h1' : z > 20 := h1
    clear hm
    go_enter Try.func3, Try.ntmps3
    go_wp2_with fail
    refine F1.mono ?_
    rintro e w1 ⟨rfl, f1⟩
    clear F1
    go_wp2_with fail
    refine (known_any _).mono ?_
    rintro e w2 ⟨rfl, f2⟩
    go_wp2_with fail
    go_ret
    exact ⟨rfl, f1.trans f2 (fun _ _ q => q)⟩
  · have h1' : ¬ z > 20 := h1
    clear hm
    go_enter Try.func3, Try.ntmps3
    go_wp2_with fail
    refine F1.mono ?_
    rintro e w1 ⟨rfl, f1⟩
    clear F1
    go_wp2_with fail
    refine (known_any _).mono ?_
    rintro e w2 ⟨rfl, f2⟩
    go_wp2_with fail
    go_ret
    exact ⟨rfl, f1.trans f2 (fun _ _ q => q)⟩
set_option maxRecDepth 100000 in
theorem plays_out {W : World} {v : Value} {xs : List ActD} (h : ActV W v xs) {z : Int} (hout : z < 1 ∨ 8192 < z) (hf : fewB xs 60 = true) :
    Calls Try.prog 3 #[.int .i64 z, v] W fun e w' => e = .returned (.bool true) ∧ Fr (fun _ => False) W w' := by
  have F1 := few_any h 60
  rw [hf] at F1
  have HNw : Hid (∀ w, Calls Try.prog 11 #[.int .i64 z] w fun e w' => e = .returned (.tuple #[.pointer none, .int .i64 2]) ∧ w = w') := Lib.hid fun w => new_bad w hout
  clear h hf
  by_cases h1 : z < 1
  · have h2 : ¬ z > 20 := by omega
    have h2' : ¬ 20 < z := by omega
    clear hout
    go_enter Try.func3, Try.ntmps3
    go_wp2_with fail
    refine F1.mono ?_
    rintro e w1 ⟨rfl, f1⟩
    clear F1
    go_wp2_with fail
    refine (HNw.out w1).mono ?_
    rintro e w' ⟨rfl, rfl⟩
    go_wp2_with fail
    refine (known_any _).mono ?_
    rintro e w2 ⟨rfl, f2⟩
    go_wp2_with fail
    go_ret
    exact ⟨rfl, f1.trans f2 (fun _ _ q => q)⟩
  · have h2 : z > 20 := by omega
    have h2' : 20 < z := by omega
    have h3 : ¬ z ≤ 8192 := by omega
    have h3' : z > 8192 := by omega
    have h3'' : 8192 < z := by omega
    clear hout
    go_enter Try.func3, Try.ntmps3
    go_wp2_with fail
    refine F1.mono ?_
    rintro e w1 ⟨rfl, f1⟩
    clear F1
    go_wp2_with fail
    refine (HNw.out w1).mono ?_
    rintro e w' ⟨rfl, rfl⟩
    go_wp2_with fail
    refine (known_any _).mono ?_
    rintro e w2 ⟨rfl, f2⟩
    go_wp2_with fail
    go_ret
    exact ⟨rfl, f1.trans f2 (fun _ _ q => q)⟩
theorem plays_all {W : World} {v : Value} {xs : List ActD} (h : ActV W v xs) (hz : ∀ x ∈ xs, ActZ x) {z : Int} :
    Calls Try.prog 3 #[.int .i64 z, v] W fun e w' => e = .returned (.bool true) ∧ Fr (fun _ => False) W w' := by
  by_cases hm : 20 < z ∧ z ≤ 8192
  · exact plays_mid hm.1 hm.2
  · cases hf : fewB xs 60 with
    | false => exact plays_many h hm hf
    | true =>
      by_cases hout : z < 1 ∨ 8192 < z
      · exact plays_out h hout hf
      · obtain ⟨st, rfl⟩ : ∃ st : Nat, z = st := ⟨z.toNat, by omega⟩
        exact plays_any h hz (by omega) (by omega) hf

set_option maxRecDepth 100000 in
theorem lifted_DiskPlays (os : Os) (started : os.Started) (H : Type) (enc : TypeId × Value → H) :
    ReturnsInHanded {} Try.checked os 3 .any (Rows.diskPlaysSpec.pre6 enc Try.prog Try.f3 Rows.diskPlaysRow.domain false) (Rows.diskPlaysSpec.post enc Try.prog Try.f3 false true false false) := by
  refine returnsInHanded_of_change (C := Try.checked) own started (by kernel_rfl) Try.func3
    (ChangeSpec.witness6 (enc := enc) (C := Try.checked) false ⟨#[], #[.int .i64 0, .slice none 0 0], []⟩ 8 (by kernel_rfl) (by kernel_rfl) (by kernel_rfl) (by kernel_rfl)) ?_
  intro W base args ds gs before hval hW hcnd _
  have hA0 := hW
  obtain ⟨p, q, hA, hV, _⟩ := hA0
  change DataW.TrodAll enc Try.prog W 0 (fun _ => true) true Try.f3.params.toList args.toList ds p at hA
  have hval' : ∀ (j : Nat) t v, Try.f3.params[j]? = some t → args[j]? = some v → Value.okWide Try.prog W .any base t v := hval
  rw [Try.params3] at hA hval'
  obtain ⟨v0, vs0, d0, ds0, p0, q0, hargs, rfl, rfl, h0, r0⟩ := trodAll_cons hA
  obtain ⟨v1, vs1, d1, ds1, p1, q1, rfl, rfl, rfl, h1, r1⟩ := trodAll_cons r0
  obtain ⟨rfl, rfl, rfl⟩ := trodAll_nil r1
  obtain rfl : args = #[v0, v1] := by cases args; simp_all
  obtain ⟨z0, rfl, lo0, hi0⟩ := open_int (okWide_int Try.underlying3 (hval' 0 3 v0 rfl rfl)) h0
  obtain ⟨xs1, ha1, hz1⟩ := open_actsz (okWide_slice Try.underlying22 (hval' 1 22 v1 rfl rfl)) h1
  exact (plays_all ha1 hz1).mono fun e W' ⟨he, hb⟩ => ⟨_, he, law_post laidOut rfl (by kernel_rfl) rfl Try.underlying4 hW rfl (hb.below (Nat.le_refl _) (fun _ _ q => q))⟩

theorem proved_DiskPlays : Rows.DiskPlaysSaid :=
  OpenClaim.holds_of_wide 3 Try.f3 rfl rfl rfl rfl rfl rfl rfl ⟨rfl, rfl, rfl, rfl, rfl⟩ rfl rfl rfl rfl rfl (by kernel_rfl) Try.func3 (by kernel_rfl)
    (of_decide_eq_true (by kernel_rfl)) (by unfold Func.isWrapper; first | (rw [if_pos (by decide +kernel)]; kernel_rfl) | (rw [if_neg (by decide +kernel)]; exact ⟨rfl, rfl⟩))
    (fun os started H enc _ => lifted_DiskPlays os started H enc)
#print axioms proved_DiskPlays
end Go.Proofs.Ytcpbhpddemflcaa
