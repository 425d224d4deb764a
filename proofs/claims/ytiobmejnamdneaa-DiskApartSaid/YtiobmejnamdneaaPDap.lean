/- DiskApart is true, for every number of sectors and every three lists of acts, in whatever memory: a copy goes on apart, and Same tells which disks are the same. No conditions. -/
import Derived.Test.YtiobmejnamdneaaLap
import Derived.Test.YtiobmejnamdneaaLaw
namespace Go.Proofs.Ytiobmejnamdneaa
open Go.ChangeShapes Go.WideShapes Go.ChangeAt Go.RowKit

set_option maxRecDepth 100000 in
theorem apart_lo {W : World} {v1 v2 v3 : Value} {z : Int} (h1 : z < 1) :
    Calls Try.prog 3 #[.int .i64 z, v1, v2, v3] W fun e w' => e = .returned (.bool true) ∧ Fr (fun _ => False) W w' := by
  go_enter Try.func3, Try.ntmps3
  go_wp2_with fail
  refine (known_any _).mono ?_
  rintro e w9 ⟨rfl, f9⟩
  go_wp2_with fail
  go_ret
  exact ⟨rfl, f9⟩
set_option maxRecDepth 100000 in
theorem apart_hi {W : World} {v1 v2 v3 : Value} {z : Int} (h1 : 8 < z) :
    Calls Try.prog 3 #[.int .i64 z, v1, v2, v3] W fun e w' => e = .returned (.bool true) ∧ Fr (fun _ => False) W w' := by
  have h2 : ¬ z < 1 := by omega
  have h3 : z > 8 := h1
  go_enter Try.func3, Try.ntmps3
  go_wp2_with fail
  refine (known_any _).mono ?_
  rintro e w9 ⟨rfl, f9⟩
  go_wp2_with fail
  go_ret
  exact ⟨rfl, f9⟩
set_option maxRecDepth 100000 in
theorem apart_many1 {W : World} {v1 v2 v3 : Value} {l1 : List ActD} (h1 : ActV W v1 l1) (hf1 : fewB l1 30 = false) {z : Int} (hz1 : ¬ z < 1) (hz2 : ¬ 8 < z) :
    Calls Try.prog 3 #[.int .i64 z, v1, v2, v3] W fun e w' => e = .returned (.bool true) ∧ Fr (fun _ => False) W w' := by
  have hz3 : ¬ z > 8 := hz2
  have F1 : ∀ w, Fr (fun _ => False) W w → Calls Try.prog 4 #[v1, .int .i64 30] w fun e w' => e = .returned (.bool false) ∧ Fr (fun _ => False) W w' := fun w f => by
    have := few_any (h1.new f) 30
    rw [hf1] at this
    exact this.mono fun e w' he => ⟨he.1, f.trans he.2 (fun _ _ q => q)⟩
  clear h1 hf1
  have HF0 := Lib.hid (Fr.refl (fun _ => False) W)
  go_enter Try.func3, Try.ntmps3
  have G := F1 _ HF0.out
  go_wp2_with fail
  refine G.mono ?_
  rintro e w1 ⟨rfl, f⟩
  have HF1 := Lib.hid f
  clear G f
  go_wp2_with fail
  refine (known_any _).mono ?_
  rintro e w9 ⟨rfl, f9⟩
  go_wp2_with fail
  go_ret
  exact ⟨rfl, HF1.out.trans f9 (fun _ _ q => q)⟩
set_option maxRecDepth 100000 in
theorem apart_many2 {W : World} {v1 v2 v3 : Value} {l1 l2 : List ActD} (h1 : ActV W v1 l1) (hf1 : fewB l1 30 = true) (h2 : ActV W v2 l2) (hf2 : fewB l2 30 = false) {z : Int} (hz1 : ¬ z < 1) (hz2 : ¬ 8 < z) :
    Calls Try.prog 3 #[.int .i64 z, v1, v2, v3] W fun e w' => e = .returned (.bool true) ∧ Fr (fun _ => False) W w' := by
  have hz3 : ¬ z > 8 := hz2
  have F1 : ∀ w, Fr (fun _ => False) W w → Calls Try.prog 4 #[v1, .int .i64 30] w fun e w' => e = .returned (.bool true) ∧ Fr (fun _ => False) W w' := fun w f => by
    have := few_any (h1.new f) 30
    rw [hf1] at this
    exact this.mono fun e w' he => ⟨he.1, f.trans he.2 (fun _ _ q => q)⟩
  have F2 : ∀ w, Fr (fun _ => False) W w → Calls Try.prog 4 #[v2, .int .i64 30] w fun e w' => e = .returned (.bool false) ∧ Fr (fun _ => False) W w' := fun w f => by
    have := few_any (h2.new f) 30
    rw [hf2] at this
    exact this.mono fun e w' he => ⟨he.1, f.trans he.2 (fun _ _ q => q)⟩
  clear h1 hf1 h2 hf2
  have HF0 := Lib.hid (Fr.refl (fun _ => False) W)
  go_enter Try.func3, Try.ntmps3
  have G := F1 _ HF0.out
  go_wp2_with fail
  refine G.mono ?_
  rintro e w1 ⟨rfl, f⟩
  have HF1 := Lib.hid f
  clear G f
  have G := F2 _ HF1.out
  go_wp2_with fail
  refine G.mono ?_
  rintro e w2 ⟨rfl, f⟩
  have HF2 := Lib.hid f
  clear G f
  go_wp2_with fail
  refine (known_any _).mono ?_
  rintro e w9 ⟨rfl, f9⟩
  go_wp2_with fail
  go_ret
  exact ⟨rfl, HF2.out.trans f9 (fun _ _ q => q)⟩
set_option maxRecDepth 100000 in
theorem apart_many3 {W : World} {v1 v2 v3 : Value} {l1 l2 l3 : List ActD} (h1 : ActV W v1 l1) (hf1 : fewB l1 30 = true) (h2 : ActV W v2 l2) (hf2 : fewB l2 30 = true) (h3 : ActV W v3 l3) (hf3 : fewB l3 30 = false) {z : Int} (hz1 : ¬ z < 1) (hz2 : ¬ 8 < z) :
    Calls Try.prog 3 #[.int .i64 z, v1, v2, v3] W fun e w' => e = .returned (.bool true) ∧ Fr (fun _ => False) W w' := by
  have hz3 : ¬ z > 8 := hz2
  have F1 : ∀ w, Fr (fun _ => False) W w → Calls Try.prog 4 #[v1, .int .i64 30] w fun e w' => e = .returned (.bool true) ∧ Fr (fun _ => False) W w' := fun w f => by
    have := few_any (h1.new f) 30
    rw [hf1] at this
    exact this.mono fun e w' he => ⟨he.1, f.trans he.2 (fun _ _ q => q)⟩
  have F2 : ∀ w, Fr (fun _ => False) W w → Calls Try.prog 4 #[v2, .int .i64 30] w fun e w' => e = .returned (.bool true) ∧ Fr (fun _ => False) W w' := fun w f => by
    have := few_any (h2.new f) 30
    rw [hf2] at this
    exact this.mono fun e w' he => ⟨he.1, f.trans he.2 (fun _ _ q => q)⟩
  have F3 : ∀ w, Fr (fun _ => False) W w → Calls Try.prog 4 #[v3, .int .i64 30] w fun e w' => e = .returned (.bool false) ∧ Fr (fun _ => False) W w' := fun w f => by
    have := few_any (h3.new f) 30
    rw [hf3] at this
    exact this.mono fun e w' he => ⟨he.1, f.trans he.2 (fun _ _ q => q)⟩
  clear h1 hf1 h2 hf2 h3 hf3
  have HF0 := Lib.hid (Fr.refl (fun _ => False) W)
  go_enter Try.func3, Try.ntmps3
  have G := F1 _ HF0.out
  go_wp2_with fail
  refine G.mono ?_
  rintro e w1 ⟨rfl, f⟩
  have HF1 := Lib.hid f
  clear G f
  have G := F2 _ HF1.out
  go_wp2_with fail
  refine G.mono ?_
  rintro e w2 ⟨rfl, f⟩
  have HF2 := Lib.hid f
  clear G f
  have G := F3 _ HF2.out
  go_wp2_with fail
  refine G.mono ?_
  rintro e w3 ⟨rfl, f⟩
  have HF3 := Lib.hid f
  clear G f
  go_wp2_with fail
  refine (known_any _).mono ?_
  rintro e w9 ⟨rfl, f9⟩
  go_wp2_with fail
  go_ret
  exact ⟨rfl, HF3.out.trans f9 (fun _ _ q => q)⟩
theorem apart_all {W : World} {v1 v2 v3 : Value} {l1 l2 l3 : List ActD} (h1 : ActV W v1 l1) (z1 : ∀ x ∈ l1, ActZ x) (h2 : ActV W v2 l2) (z2 : ∀ x ∈ l2, ActZ x) (h3 : ActV W v3 l3) (z3 : ∀ x ∈ l3, ActZ x) {z : Int} :
    Calls Try.prog 3 #[.int .i64 z, v1, v2, v3] W fun e w' => e = .returned (.bool true) ∧ Fr (fun _ => False) W w' := by
  by_cases hz1 : z < 1
  · exact apart_lo hz1
  by_cases hz2 : 8 < z
  · exact apart_hi hz2
  cases hf1 : fewB l1 30 with
  | false => exact apart_many1 h1 hf1 hz1 hz2
  | true =>
    cases hf2 : fewB l2 30 with
    | false => exact apart_many2 h1 hf1 h2 hf2 hz1 hz2
    | true =>
      cases hf3 : fewB l3 30 with
      | false => exact apart_many3 h1 hf1 h2 hf2 h3 hf3 hz1 hz2
      | true =>
        obtain ⟨st, rfl⟩ : ∃ st : Nat, z = st := ⟨z.toNat, by omega⟩
        exact apart_any h1 z1 h2 z2 h3 z3 (by omega) (by omega) hf1 hf2 hf3

set_option maxRecDepth 100000 in
theorem lifted_DiskApart (os : Os) (started : os.Started) (H : Type) (enc : TypeId × Value → H) :
    ReturnsInHanded {} Try.checked os 3 .any (Rows.diskApartSpec.pre6 enc Try.prog Try.f3 Rows.diskApartRow.domain false) (Rows.diskApartSpec.post enc Try.prog Try.f3 false true false false) := by
  refine returnsInHanded_of_change (C := Try.checked) own started (by kernel_rfl) Try.func3
    (ChangeSpec.witness6 (enc := enc) (C := Try.checked) false ⟨#[], #[.int .i64 0, .slice none 0 0, .slice none 0 0, .slice none 0 0], []⟩ 8 (by kernel_rfl) (by kernel_rfl) (by kernel_rfl) (by kernel_rfl)) ?_
  intro W base args ds gs before hval hW hcnd _
  have hA0 := hW
  obtain ⟨p, q, hA, hV, _⟩ := hA0
  change DataW.TrodAll enc Try.prog W 0 (fun _ => true) true Try.f3.params.toList args.toList ds p at hA
  have hval' : ∀ (j : Nat) t v, Try.f3.params[j]? = some t → args[j]? = some v → Value.okWide Try.prog W .any base t v := hval
  rw [Try.params3] at hA hval'
  obtain ⟨v0, vs0, d0, ds0, p0, q0, hargs, rfl, rfl, h0, r0⟩ := trodAll_cons hA
  obtain ⟨v1, vs1, d1, ds1, p1, q1, rfl, rfl, rfl, h1, r1⟩ := trodAll_cons r0
  obtain ⟨v2, vs2, d2, ds2, p2, q2, rfl, rfl, rfl, h2, r2⟩ := trodAll_cons r1
  obtain ⟨v3, vs3, d3, ds3, p3, q3, rfl, rfl, rfl, h3, r3⟩ := trodAll_cons r2
  obtain ⟨rfl, rfl, rfl⟩ := trodAll_nil r3
  obtain rfl : args = #[v0, v1, v2, v3] := by cases args; simp_all
  obtain ⟨z0, rfl, lo0, hi0⟩ := open_int (okWide_int Try.underlying3 (hval' 0 3 v0 rfl rfl)) h0
  obtain ⟨xs1, ha1, hz1⟩ := open_actsz (okWide_slice Try.underlying22 (hval' 1 22 v1 rfl rfl)) h1
  obtain ⟨xs2, ha2, hz2⟩ := open_actsz (okWide_slice Try.underlying22 (hval' 2 22 v2 rfl rfl)) h2
  obtain ⟨xs3, ha3, hz3⟩ := open_actsz (okWide_slice Try.underlying22 (hval' 3 22 v3 rfl rfl)) h3
  exact (apart_all ha1 hz1 ha2 hz2 ha3 hz3).mono fun e W' ⟨he, hb⟩ => ⟨_, he, law_post laidOut rfl (by kernel_rfl) rfl Try.underlying4 hW rfl (hb.below (Nat.le_refl _) (fun _ _ q => q))⟩

theorem proved_DiskApart : Rows.DiskApartSaid :=
  OpenClaim.holds_of_wide 3 Try.f3 rfl rfl rfl rfl rfl rfl rfl ⟨rfl, rfl, rfl, rfl, rfl⟩ rfl rfl rfl rfl rfl (by kernel_rfl) Try.func3 (by kernel_rfl)
    (of_decide_eq_true (by kernel_rfl)) (by unfold Func.isWrapper; first | (rw [if_pos (by decide +kernel)]; kernel_rfl) | (rw [if_neg (by decide +kernel)]; exact ⟨rfl, rfl⟩))
    (fun os started H enc _ => lifted_DiskApart os started H enc)
#print axioms proved_DiskApart
end Go.Proofs.Ytiobmejnamdneaa
