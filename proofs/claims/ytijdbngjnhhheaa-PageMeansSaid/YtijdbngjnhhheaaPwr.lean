/- putSpan; copies into a page. -/
import Derived.Test.YtijdbngjnhhheaaPem
namespace Go.Proofs.Ytijdbngjnhhheaa
open Go.RowKit

section
variable {w : World} {P : Nat}
set_option maxRecDepth 100000 in
theorem putSpan_any {l : List UInt8} (h : Blk w P 26 (cellsB l).toArray) (hl : l.length = 512) {i b n : Nat} (hi : i ≤ 124) (hb : b < 65536) (hn : n < 65536) :
    Calls Try.prog 65 #[.pointer (some ⟨P, 0, none⟩), .int .i64 i, .agg #[.int .i64 b, .int .i64 n]] w fun e w' => e = .returned (.tuple #[]) ∧ Blk w' P 26 (cellsB (patch l (12 + 4 * i) (be b 2 ++ be n 2))).toArray ∧ Fr (fun k => k = P) w w' := by
  obtain ⟨o, ho⟩ : ∃ o, o = 12 + 4 * i := ⟨_, rfl⟩
  rw [← ho]
  have hs1 : ∀ W, (Instr.sliceAt 26 (.pointer (some ⟨P, 0, none⟩)) (some (.int .i64 (12 + 4 * (i : Int)))) none none).run Try.prog W = .ok (.slice (some ⟨P, o, none⟩) (512 - o) (512 - o)) W := page_from P (by omega) (by omega)
  have hs2 : ∀ W, (Instr.slice 34 (.slice (some ⟨P, o, none⟩) (512 - o) (512 - o)) (some (.int .i64 2)) none none).run Try.prog W = .ok (.slice (some ⟨P, o + 2, none⟩) (512 - o - 2) (512 - o - 2)) W := fun W => by
    rw [run_slice_l W 34 _ _ _ Try.underlying34 .i64 2 (by omega) (by omega)]
    have hz : (sizeOf (Try.prog.elem 34)).run Try.prog W = .ok 1 W := by go_simp
    rw [hz]
    simp [Result.andThen, sliced, addr_add]
    omega
  obtain ⟨sb, hsb⟩ : ∃ sb, sb = w.heap.size := ⟨_, rfl⟩
  have f0 := (Fr.refl (fun k => k = P) w).alloc (.cells #[.int .i64 b, .int .i64 n] 90)
  have hb0 := Blk.new w 90 #[.int .i64 b, .int .i64 n]
  rw [← hsb] at hb0
  have h1 : Blk (w.alloc (.cells #[.int .i64 b, .int .i64 n] 90)) P 26 (cellsB l).toArray := h.keep ((Fr.refl (fun _ => False) w).alloc _) (fun q => q)
  have hne : P ≠ sb := by have := h.lt; omega
  have c0 := hb0.cell 0
  simp at c0
  have C1 := putnum_any (o := o) (n := 512 - o) (c := 512 - o) (x := b) (s := 2) h1 (by omega) (by omega) (by omega) (by omega) (by omega)
  have HB := Lib.hid (And.intro hb0 f0)
  have HS := Lib.hid hsb
  have HO := Lib.hid (And.intro hl ho)
  have hi9 : o ≤ 508 := by omega
  clear h h1 hl hb0 f0 ho
  subst hsb
  go_enter Try.func65, Try.ntmps65
  go_wp2_with fail
  refine C1.mono ?_
  rintro e w1 ⟨rfl, h2, f1⟩
  have hb1 := HB.out.1.keep f1 (fun e => hne e.symm)
  have hpl : (patch l o (be b 2)).length = 512 := by rw [patch_len] <;> simp [be_len, HO.out.1]; omega
  have C2 := putnum_any (w := w1.drew) (o := o + 2) (n := 512 - o - 2) (c := 512 - o - 2) (x := n) (s := 2) h2 (by omega) (by omega) (by omega) (by omega) (by omega)
  have e2 : patch (patch l o (be b 2)) (o + 2) (be n 2) = patch l o (be b 2 ++ be n 2) := patch_patch (by rw [be_len]) (by rw [be_len, HO.out.1]; omega)
  rw [e2] at C2
  have HB2 := Lib.hid (And.intro hb1 (HB.out.2.trans f1 (fun _ _ q => q)))
  have HC2 := Lib.hid C2
  clear C1 C2 h2 f1 hb1 hpl e2 HB c0 HS
  go_upto_region 3 with (fail)
  refine wp_region_held_drew (S := fun w' => Blk w' w.heap.size 90 #[.int .i64 b, .int .i64 n]) (by kernel_rfl) (HB2.out.1) (fun hS0 => ?_)
  refine anyH_take 0 17 (.slice (some ⟨P, o, none⟩) (512 - o) (512 - o)) rfl rfl (by kernel_rfl) (by kernel_rfl) (by kernel_rfl) (fun _ _ _ h => h) (.inl ⟨by rfl, fun w'' hS => by go_simp⟩) hS0 ?_
  (simp only [List.setIfInBounds_toArray, List.set_cons_zero, List.set_cons_succ])
  refine anyH_take 1 18 (.slice (some ⟨P, o + 2, none⟩) (512 - o - 2) (512 - o - 2)) rfl rfl (by kernel_rfl) (by kernel_rfl) (by kernel_rfl) (fun _ _ _ h => h) (.inl ⟨by rfl, fun w'' hS => by have q0 := hs2 w''; go_simp⟩) hS0 ?_
  (simp only [List.setIfInBounds_toArray, List.set_cons_zero, List.set_cons_succ])
  refine anyH_take 2 19 (.pointer (some ⟨w.heap.size, 1, none⟩)) rfl rfl (by kernel_rfl) (by kernel_rfl) (by kernel_rfl) (fun _ _ _ h => h) (.inl ⟨by rfl, fun w'' hS => by go_simp⟩) hS0 ?_
  (simp only [List.setIfInBounds_toArray, List.set_cons_zero, List.set_cons_succ])
  refine anyH_take 3 20 (.int .i64 n) rfl rfl (by kernel_rfl) (by kernel_rfl) (by kernel_rfl) (fun _ _ _ h => h) (.inl ⟨by rfl, fun w'' hS => by have q0 := hS.cell 1; simp at q0; go_simp⟩) hS0 ?_
  (simp only [List.setIfInBounds_toArray, List.set_cons_zero, List.set_cons_succ])
  refine anyH_enter (f := 40) (args := #[.slice (some ⟨P, o + 2, none⟩) (512 - o - 2) (512 - o - 2), .int .i64 n, .int .i64 (2 : Nat)]) 4 21 (by kernel_rfl) rfl rfl (by rfl) (by go_simp) ?_
  refine HC2.out.mono ?_
  rintro e w3 ⟨rfl, h3, f3⟩
  refine ⟨_, rfl, Blk.keep (w := w1.drew) HB2.out.1 f3 (fun e => hne e.symm), ?_⟩
  refine wpAnyH_done (by kernel_rfl) ?_ _
  have HE := Lib.hid (And.intro h3 (HB2.out.2.drew.trans f3 (fun _ _ q => q)))
  clear h3 f3
  go_wp2_with fail
  go_end0
  exact ⟨rfl, HE.out⟩
end
end Go.Proofs.Ytijdbngjnhhheaa
