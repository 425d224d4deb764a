/- DiskTears is true, for every sector, every list of sectors and every pick, in whatever memory: what a loss of power leaves of a sector that was written some times. No conditions. -/
import Derived.Test.YtcpbhpddemflcaaLte
import Derived.Test.YtcpbhpddemflcaaLaw
namespace Go.Proofs.Ytcpbhpddemflcaa
open Go.ChangeShapes Go.WideShapes Go.ChangeAt Go.RowKit

set_option maxRecDepth 100000 in
theorem tears_out {W : World} {x : List UInt8} {v : Value} {ss : List (List UInt8)} (h : SecV W v ss) (hm : 12 < ss.length) {pick : Int} :
    Calls Try.prog 5 #[av x, v, .int .i64 pick] W fun e w' => e = .returned (.bool true) ∧ Fr (fun _ => False) W w' := by
  obtain ⟨A, ca, rfl, _, _, _⟩ := h
  obtain ⟨m, hmm⟩ : ∃ m, m = ss.length := ⟨_, rfl⟩
  rw [← hmm] at hm ⊢
  clear hmm
  have fa := (Fr.refl (fun _ => False) W).alloc (.cells (cellsB x).toArray 34)
  have HF := Lib.hid fa
  clear fa
  have hmi : (12 : Int) < (m : Int) := by omega
  have hmi' : (m : Int) > 12 := hmi
  go_enter Try.func5, Try.ntmps5
  go_wp2_with (refine wpList_put rfl 34 _ rfl _ rfl ?_)
  refine (known_any _).mono ?_
  rintro e w1 ⟨rfl, f1⟩
  have HF1 := Lib.hid (HF.out.trans f1 (fun _ _ q => q))
  clear f1
  go_wp2_with fail
  go_ret
  exact ⟨rfl, HF1.out⟩
theorem tears_all {W : World} {x : List UInt8} (hx : x.length = 128) {v : Value} {ss : List (List UInt8)} (h : SecV W v ss) {pick : Int} (hp0 : -9223372036854775808 ≤ pick) (hp1 : pick ≤ 9223372036854775807) :
    Calls Try.prog 5 #[av x, v, .int .i64 pick] W fun e w' => e = .returned (.bool true) ∧ Fr (fun _ => False) W w' := by
  by_cases hm : 12 < ss.length
  · exact tears_out h hm
  · exact tears_any hx h (by omega) hp0 hp1

set_option maxRecDepth 100000 in
theorem lifted_DiskTears (os : Os) (started : os.Started) (H : Type) (enc : TypeId × Value → H) :
    ReturnsInHanded {} Try.checked os 5 .any (Rows.diskTearsSpec.pre6 enc Try.prog Try.f5 Rows.diskTearsRow.domain false) (Rows.diskTearsSpec.post enc Try.prog Try.f5 false true false false) := by
  refine returnsInHanded_of_change (C := Try.checked) own started (by kernel_rfl) Try.func5
    (ChangeSpec.witness6 (enc := enc) (C := Try.checked) false ⟨#[], #[.agg (Array.replicate 128 (.int .u8 0)), .slice none 0 0, .int .i64 0], []⟩ 8 (by kernel_rfl) (by kernel_rfl) (by kernel_rfl) (by kernel_rfl)) ?_
  intro W base args ds gs before hval hW hcnd _
  have hA0 := hW
  obtain ⟨p, q, hA, hV, _⟩ := hA0
  change DataW.TrodAll enc Try.prog W 0 (fun _ => true) true Try.f5.params.toList args.toList ds p at hA
  have hval' : ∀ (j : Nat) t v, Try.f5.params[j]? = some t → args[j]? = some v → Value.okWide Try.prog W .any base t v := hval
  rw [Try.params5] at hA hval'
  obtain ⟨v0, vs0, d0, ds0, p0, q0, hargs, rfl, rfl, h0, r0⟩ := trodAll_cons hA
  obtain ⟨v1, vs1, d1, ds1, p1, q1, rfl, rfl, rfl, h1, r1⟩ := trodAll_cons r0
  obtain ⟨v2, vs2, d2, ds2, p2, q2, rfl, rfl, rfl, h2, r2⟩ := trodAll_cons r1
  obtain ⟨rfl, rfl, rfl⟩ := trodAll_nil r2
  obtain rfl : args = #[v0, v1, v2] := by cases args; simp_all
  obtain ⟨s0, hl0, rfl⟩ := open_sector (okWide_sector (hval' 0 34 v0 rfl rfl)) h0
  obtain ⟨ss1, hs1⟩ := open_secs (okWide_slice Try.underlying49 (hval' 1 49 v1 rfl rfl)) h1
  obtain ⟨z2, rfl, lo2, hi2⟩ := open_int (okWide_int Try.underlying3 (hval' 2 3 v2 rfl rfl)) h2
  exact (tears_all hl0 hs1 lo2 hi2).mono fun e W' ⟨he, hb⟩ => ⟨_, he, law_post laidOut rfl (by kernel_rfl) rfl Try.underlying4 hW rfl (hb.below (Nat.le_refl _) (fun _ _ q => q))⟩

theorem proved_DiskTears : Rows.DiskTearsSaid :=
  OpenClaim.holds_of_wide 5 Try.f5 rfl rfl rfl rfl rfl rfl rfl ⟨rfl, rfl, rfl, rfl, rfl⟩ rfl rfl rfl rfl rfl (by kernel_rfl) Try.func5 (by kernel_rfl)
    (of_decide_eq_true (by kernel_rfl)) (by unfold Func.isWrapper; first | (rw [if_pos (by decide +kernel)]; kernel_rfl) | (rw [if_neg (by decide +kernel)]; exact ⟨rfl, rfl⟩))
    (fun os started H enc _ => lifted_DiskTears os started H enc)
#print axioms proved_DiskTears
end Go.Proofs.Ytcpbhpddemflcaa
