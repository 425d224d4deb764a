/- couponlaw12's known rows, of what status' calls answer. -/
import Derived.Test.YthffnepfnadakaaSwk
namespace Go.Proofs.Ythffnepfnadakaa
open Go.RowKit

theorem slice2_st (x0 x1 : Int) (w : World) : (Instr.buildSlice 25 2 #[(0, .int .i64 x0), (1, .int .i64 x1)]).run Try.prog w = .ok (.slice (some ⟨w.heap.size, 0, none⟩) 2 2) (w.alloc (.cells #[.int .i64 x0, .int .i64 x1] 22)) := by
  obtain ⟨i0, hi, hz0, hz1, hz2⟩ := info_parts infoSt
  refine run_buildSlice w 25 22 2 _ _ i0 _ Try.underlying25 hi hz0 (by rw [hz1]; omega) (by rw [hz1]; omega) ?_
  rw [hz1]
  have hb : ((Array.range (2 * 1)).map ((Value.int .i64 0).cells[· % (Value.int .i64 0).cells.size]!)) = #[Value.int .i64 0, Value.int .i64 0] := by
    apply Array.ext
    · simp
    · intro i h1 h2
      simp at h1
      have h3 : i = 0 ∨ i = 1 := by omega
      rcases h3 with rfl | rfl <;> simp [Value.cells]
  rw [hb]
  simp [Instr.fill, Value.cells]
theorem sts2 (w : World) (x0 x1 : Int) : IntsAt (w.alloc (.cells #[.int .i64 x0, .int .i64 x1] 22)) (.slice (some ⟨w.heap.size, 0, none⟩) 2 2) [x0, x1] := by
  refine ⟨_, 2, rfl, by simp [maxLen], fun _ => ⟨w.heap.size, 0, rfl, fun i u hi => ?_⟩⟩
  rw [(Blk.new w 22 #[.int .i64 x0, .int .i64 x1]).cell, Nat.zero_add]
  match i, hi with
  | 0, hi => simp at hi; subst hi; rfl
  | 1, hi => simp at hi; subst hi; rfl
theorem slice3_st (x0 x1 x2 : Int) (w : World) : (Instr.buildSlice 25 3 #[(0, .int .i64 x0), (1, .int .i64 x1), (2, .int .i64 x2)]).run Try.prog w = .ok (.slice (some ⟨w.heap.size, 0, none⟩) 3 3) (w.alloc (.cells #[.int .i64 x0, .int .i64 x1, .int .i64 x2] 22)) := by
  obtain ⟨i0, hi, hz0, hz1, hz2⟩ := info_parts infoSt
  refine run_buildSlice w 25 22 3 _ _ i0 _ Try.underlying25 hi hz0 (by rw [hz1]; omega) (by rw [hz1]; omega) ?_
  rw [hz1]
  have hb : ((Array.range (3 * 1)).map ((Value.int .i64 0).cells[· % (Value.int .i64 0).cells.size]!)) = #[Value.int .i64 0, Value.int .i64 0, Value.int .i64 0] := by
    apply Array.ext
    · simp
    · intro i h1 h2
      simp at h1
      have h3 : i = 0 ∨ i = 1 ∨ i = 2 := by omega
      rcases h3 with rfl | rfl | rfl <;> simp [Value.cells]
  rw [hb]
  simp [Instr.fill, Value.cells]
theorem sts3 (w : World) (x0 x1 x2 : Int) : IntsAt (w.alloc (.cells #[.int .i64 x0, .int .i64 x1, .int .i64 x2] 22)) (.slice (some ⟨w.heap.size, 0, none⟩) 3 3) [x0, x1, x2] := by
  refine ⟨_, 3, rfl, by simp [maxLen], fun _ => ⟨w.heap.size, 0, rfl, fun i u hi => ?_⟩⟩
  rw [(Blk.new w 22 #[.int .i64 x0, .int .i64 x1, .int .i64 x2]).cell, Nat.zero_add]
  match i, hi with
  | 0, hi => simp at hi; subst hi; rfl
  | 1, hi => simp at hi; subst hi; rfl
  | 2, hi => simp at hi; subst hi; rfl
theorem slice4_st (x0 x1 x2 x3 : Int) (w : World) : (Instr.buildSlice 25 4 #[(0, .int .i64 x0), (1, .int .i64 x1), (2, .int .i64 x2), (3, .int .i64 x3)]).run Try.prog w = .ok (.slice (some ⟨w.heap.size, 0, none⟩) 4 4) (w.alloc (.cells #[.int .i64 x0, .int .i64 x1, .int .i64 x2, .int .i64 x3] 22)) := by
  obtain ⟨i0, hi, hz0, hz1, hz2⟩ := info_parts infoSt
  refine run_buildSlice w 25 22 4 _ _ i0 _ Try.underlying25 hi hz0 (by rw [hz1]; omega) (by rw [hz1]; omega) ?_
  rw [hz1]
  have hb : ((Array.range (4 * 1)).map ((Value.int .i64 0).cells[· % (Value.int .i64 0).cells.size]!)) = #[Value.int .i64 0, Value.int .i64 0, Value.int .i64 0, Value.int .i64 0] := by
    apply Array.ext
    · simp
    · intro i h1 h2
      simp at h1
      have h3 : i = 0 ∨ i = 1 ∨ i = 2 ∨ i = 3 := by omega
      rcases h3 with rfl | rfl | rfl | rfl <;> simp [Value.cells]
  rw [hb]
  simp [Instr.fill, Value.cells]
theorem sts4 (w : World) (x0 x1 x2 x3 : Int) : IntsAt (w.alloc (.cells #[.int .i64 x0, .int .i64 x1, .int .i64 x2, .int .i64 x3] 22)) (.slice (some ⟨w.heap.size, 0, none⟩) 4 4) [x0, x1, x2, x3] := by
  refine ⟨_, 4, rfl, by simp [maxLen], fun _ => ⟨w.heap.size, 0, rfl, fun i u hi => ?_⟩⟩
  rw [(Blk.new w 22 #[.int .i64 x0, .int .i64 x1, .int .i64 x2, .int .i64 x3]).cell, Nat.zero_add]
  match i, hi with
  | 0, hi => simp at hi; subst hi; rfl
  | 1, hi => simp at hi; subst hi; rfl
  | 2, hi => simp at hi; subst hi; rfl
  | 3, hi => simp at hi; subst hi; rfl
set_option maxRecDepth 100000 in
set_option maxHeartbeats 2000000 in
theorem sknown (P : StatusP) (w : World) : Calls Try.prog 17 #[] w fun e w' => e = .returned (.bool true) ∧ Fr (fun _ => False) w w' := by
  have h1 := fun W => P.way 3 6 W
  rw [show wayE 3 6 = 0 from by decide +kernel, show wayS 3 6 = [3, 2, 1, 6] from by decide +kernel] at h1
  have h2 := fun W v (hv : IntsAt W v [1, 9, 4]) => P.walk W v [1, 9, 4] hv (by simp)
  have h3 := fun W v (hv : IntsAt W v [1, 4]) => P.walk W v [1, 4] hv (by simp)
  simp only [show walkN [1, 9, 4] = 0 from by decide +kernel, show walkE [1, 9, 4] = 0 from by decide +kernel] at h2
  simp only [show walkN [1, 4] = 1 from by decide +kernel, show walkE [1, 4] = 9 from by decide +kernel] at h3
  have H1 := Lib.hid h1
  have H2 := Lib.hid h2
  have H3 := Lib.hid h3
  clear h1 h2 h3
  go_enter Try.func17, Try.ntmps17
  go_wp2_with fail
  refine (H1.out _).mono ?_
  rintro e w1 ⟨v1, rfl, hv1, f1⟩
  have HV1 := Lib.hid (And.intro hv1 f1)
  clear hv1 f1
  have hs0 := slice3_st 1 9 4 w1
  go_wp2_with fail
  refine (H2.out _ _ (sts3 w1 1 9 4)).mono ?_
  rintro e w2 ⟨rfl, f2⟩
  have f12 : Fr (fun _ => False) w1 w2 := ((Fr.refl (fun _ => False) w1).alloc _).trans f2 (fun _ _ q => q)
  have HV2 := Lib.hid (And.intro (HV1.out.1.new0 f12) (HV1.out.2.trans f12 (fun _ _ q => q)))
  clear f12 f2 hs0 HV1
  have hs0 := slice2_st 1 4 w2
  go_wp2_with fail
  refine (H3.out _ _ (sts2 w2 1 4)).mono ?_
  rintro e w3 ⟨rfl, f3⟩
  have f23 : Fr (fun _ => False) w2 w3 := ((Fr.refl (fun _ => False) w2).alloc _).trans f3 (fun _ _ q => q)
  have HV3 := Lib.hid (And.intro (HV2.out.1.new0 f23) (HV2.out.2.trans f23 (fun _ _ q => q)))
  clear f23 f3 hs0 HV2
  have hs0 := slice4_st 3 2 1 6 w3
  go_wp2_with fail
  have fa : Fr (fun _ => False) w3 (w3.alloc (.cells #[.int .i64 3, .int .i64 2, .int .i64 1, .int .i64 6] 22)) := (Fr.refl _ _).alloc _
  have hsm := lsame_any (HV3.out.1.new0 fa) (sts4 w3 3 2 1 6) (by simp) (by simp)
  rw [show decide (([3, 2, 1, 6] : List Int) = [3, 2, 1, 6]) = true from by decide] at hsm
  refine hsm.mono ?_
  rintro e w6 ⟨rfl, f6⟩
  have HV5 := Lib.hid (HV3.out.2.trans (fa.trans f6 (fun _ _ q => q)) (fun _ _ q => q))
  clear fa hsm f6 hs0 HV3
  go_wp2_with fail
  go_ret
  exact ⟨rfl, HV5.out⟩
def Tru (w : World) (e : Ending) (w' : World) : Prop := e = .returned (.bool true) ∧ Fr (fun _ => False) w w'
end Go.Proofs.Ythffnepfnadakaa
