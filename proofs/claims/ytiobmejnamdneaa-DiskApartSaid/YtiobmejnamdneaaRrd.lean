/- The document's disk: Read. -/
import Derived.Test.YtiobmejnamdneaaRst
namespace Go.Proofs.Ytiobmejnamdneaa
open Go.RowKit Go.Maps

section
variable {w : World} {g : Nat} {v : Value} {vs : List Value} {r : RD}
set_option maxRecDepth 100000 in
set_option maxHeartbeats 4000000 in
theorem rread_any (h : RefW w g v vs r) {i : Nat} {ss : List (List UInt8)} (hi : r.V[i]? = some ss) : Calls Try.prog 11 #[.pointer (some ⟨g, 0, none⟩), .int .i64 i] w fun e w' =>
    e = .returned (av (ss.getD (ss.length - 1) [])) ∧ Fr (fun _ => False) w w' := by
  have hin : i < r.V.length := (List.getElem?_eq_some_iff.1 hi).1
  obtain ⟨RB, c, cur, hv, hb, hnc, hcm, hcs, htk⟩ := h.form (by omega)
  obtain ⟨x, hx, hrow, hne, hall⟩ := h.at_ hi
  obtain ⟨A, ce, hxe, hm1, hm2, h3⟩ := secV_row hrow hall
  have hm0 : 0 < ss.length := List.length_pos_iff.2 hne
  obtain ⟨b, off, rfl, hsec⟩ := h3 hm0
  obtain ⟨m, hm⟩ : ∃ m, m = ss.length := ⟨_, rfl⟩
  obtain ⟨n, hn⟩ : ∃ n, n = r.V.length := ⟨_, rfl⟩
  obtain ⟨j, hj⟩ : ∃ j, j = ss.length - 1 := ⟨_, rfl⟩
  obtain ⟨s, hs⟩ : ∃ s, ss[j]? = some s := ⟨_, List.getElem?_eq_getElem (by omega)⟩
  have hsd : ss.getD (ss.length - 1) [] = s := by rw [List.getD_eq_getElem?_getD, ← hj, hs]; rfl
  rw [hsd]
  obtain ⟨hsl, hsr⟩ := hsec j s hs
  have HS : Hid (s.length = 128) := Lib.hid hsl
  rw [← hm] at hxe hm0
  rw [← hn] at hv hin
  have hjm : (m : Int) - 1 = (j : Int) := by omega
  have hj0 : (0 : Int) ≤ (j : Int) := by omega
  have hj1 : (j : Int) < (m : Int) := by omega
  have hm9 : m ≤ 9223372036854775807 := by rw [← hm] at hm1; simp only [maxLen] at hm2; omega
  have hwj : IntKind.i64.wrap (j : Int) = (j : Int) := by
    simp [IntKind.wrap, IntKind.signed, IntKind.bits]
    omega
  have hf := (Fr.refl (fun _ => False) w).alloc (.cells (cellsB (nought 128)).toArray 31)
  have HB := Lib.hid (And.intro (Blk.new w 31 (cellsB (nought 128)).toArray) hf)
  have cg : w.cell? ⟨g, 0, none⟩ = some v := (h.blk.cell 0).trans rfl
  have cx := row_at hb htk hx
  rw [hv] at cg
  rw [hxe] at cx
  have HC : Hid (∀ w', Fr (fun _ => False) w w' → w'.cell? ⟨g, 0, none⟩ = some (.slice (some ⟨RB, 0, none⟩) n c) ∧ w'.cell? ⟨RB, i, none⟩ = some (.slice (some ⟨b, off, none⟩) m ce) ∧ w'.rangeAt b (off + j * 128) (cellsB s)) := Lib.hid fun w' f =>
    ⟨(f.cell (World.block_lt_of_cell? w _ cg) (fun q => q)).trans cg, (f.cell (World.block_lt_of_cell? w _ cx) (fun q => q)).trans cx, fun k u hu => (f.cell (World.block_lt_of_cell? w _ (hsr k u hu)) (fun q => q)).trans (hsr k u hu)⟩
  have hu := Try.underlying31
  have hsz : (Try.prog.info? 31).map (·.size) = some (cellsB s).length := by rw [infoSector, cellsB_len, HS.out]
  have hi0 : (0 : Int) ≤ (i : Int) := by omega
  have hi1 : (i : Int) < (n : Int) := by omega
  clear hi hb hnc hcm hcs htk hx hrow hne hall hm1 hm2 h3 hsec hs hsd hsl hsr hxe hv hf cg cx h hm hn hj hin
  go_enter Try.func11, Try.ntmps11
  go_upto_region 1 with (refine wpList_zero rfl 31 rfl zeroSector ?_)
  refine wp_region_held_drew (S := fun w' => Fr (fun _ => False) w w' ∧ ∃ y0 : List UInt8, y0.length = 128 ∧ Blk w' w.heap.size 31 (cellsB y0).toArray) (by kernel_rfl) (⟨HB.out.2.drew, nought 128, nought_len _, HB.out.1⟩) (fun hS0 => ?_)
  refine anyH_take 0 5 (.pointer (some ⟨g, 0, none⟩)) rfl rfl (by kernel_rfl) (by kernel_rfl) (by kernel_rfl) (fun _ _ _ h => h) (.inl ⟨by rfl, fun w'' hS => by go_simp⟩) hS0 ?_
  (simp only [List.setIfInBounds_toArray, List.set_cons_zero, List.set_cons_succ])
  refine anyH_take 1 6 (.pointer (some ⟨g, 0, none⟩)) rfl rfl (by kernel_rfl) (by kernel_rfl) (by kernel_rfl) (fun _ _ _ h => h) (.inl ⟨by rfl, fun w'' hS => by go_simp⟩) hS0 ?_
  (simp only [List.setIfInBounds_toArray, List.set_cons_zero, List.set_cons_succ])
  refine anyH_take 2 7 (.pointer (some ⟨g, 0, none⟩)) rfl rfl (by kernel_rfl) (by kernel_rfl) (by kernel_rfl) (fun _ _ _ h => h) (.inl ⟨by rfl, fun w'' hS => by go_simp⟩) hS0 ?_
  (simp only [List.setIfInBounds_toArray, List.set_cons_zero, List.set_cons_succ])
  refine anyH_take 3 8 (.slice (some ⟨RB, 0, none⟩) n c) rfl rfl (by kernel_rfl) (by kernel_rfl) (by kernel_rfl) (fun _ _ _ h => h) (.inl ⟨by rfl, fun w'' hS => by have q0 := (HC.out w'' hS.1).1; go_simp⟩) hS0 ?_
  (simp only [List.setIfInBounds_toArray, List.set_cons_zero, List.set_cons_succ])
  refine anyH_take 4 9 (.int .i64 (i : Nat)) rfl rfl (by kernel_rfl) (by kernel_rfl) (by kernel_rfl) (fun _ _ _ h => h) (.inl ⟨by rfl, fun w'' hS => by go_simp⟩) hS0 ?_
  (simp only [List.setIfInBounds_toArray, List.set_cons_zero, List.set_cons_succ])
  refine anyH_take 5 10 (.pointer (some ⟨RB, i, none⟩)) rfl rfl (by kernel_rfl) (by kernel_rfl) (by kernel_rfl) (fun _ _ _ h => h) (.inl ⟨by rfl, fun w'' hS => by go_simp⟩) hS0 ?_
  (simp only [List.setIfInBounds_toArray, List.set_cons_zero, List.set_cons_succ])
  refine anyH_take 6 11 (.slice (some ⟨b, off, none⟩) m ce) rfl rfl (by kernel_rfl) (by kernel_rfl) (by kernel_rfl) (fun _ _ _ h => h) (.inl ⟨by rfl, fun w'' hS => by have q0 := (HC.out w'' hS.1).2.1; go_simp⟩) hS0 ?_
  (simp only [List.setIfInBounds_toArray, List.set_cons_zero, List.set_cons_succ])
  refine anyH_take 7 12 (.pointer (some ⟨g, 0, none⟩)) rfl rfl (by kernel_rfl) (by kernel_rfl) (by kernel_rfl) (fun _ _ _ h => h) (.inl ⟨by rfl, fun w'' hS => by go_simp⟩) hS0 ?_
  (simp only [List.setIfInBounds_toArray, List.set_cons_zero, List.set_cons_succ])
  refine anyH_take 8 13 (.pointer (some ⟨g, 0, none⟩)) rfl rfl (by kernel_rfl) (by kernel_rfl) (by kernel_rfl) (fun _ _ _ h => h) (.inl ⟨by rfl, fun w'' hS => by go_simp⟩) hS0 ?_
  (simp only [List.setIfInBounds_toArray, List.set_cons_zero, List.set_cons_succ])
  refine anyH_take 9 14 (.pointer (some ⟨g, 0, none⟩)) rfl rfl (by kernel_rfl) (by kernel_rfl) (by kernel_rfl) (fun _ _ _ h => h) (.inl ⟨by rfl, fun w'' hS => by go_simp⟩) hS0 ?_
  (simp only [List.setIfInBounds_toArray, List.set_cons_zero, List.set_cons_succ])
  refine anyH_take 10 15 (.slice (some ⟨RB, 0, none⟩) n c) rfl rfl (by kernel_rfl) (by kernel_rfl) (by kernel_rfl) (fun _ _ _ h => h) (.inl ⟨by rfl, fun w'' hS => by have q0 := (HC.out w'' hS.1).1; go_simp⟩) hS0 ?_
  (simp only [List.setIfInBounds_toArray, List.set_cons_zero, List.set_cons_succ])
  refine anyH_take 11 16 (.int .i64 (i : Nat)) rfl rfl (by kernel_rfl) (by kernel_rfl) (by kernel_rfl) (fun _ _ _ h => h) (.inl ⟨by rfl, fun w'' hS => by go_simp⟩) hS0 ?_
  (simp only [List.setIfInBounds_toArray, List.set_cons_zero, List.set_cons_succ])
  refine anyH_take 12 17 (.pointer (some ⟨RB, i, none⟩)) rfl rfl (by kernel_rfl) (by kernel_rfl) (by kernel_rfl) (fun _ _ _ h => h) (.inl ⟨by rfl, fun w'' hS => by go_simp⟩) hS0 ?_
  (simp only [List.setIfInBounds_toArray, List.set_cons_zero, List.set_cons_succ])
  refine anyH_take 13 18 (.slice (some ⟨b, off, none⟩) m ce) rfl rfl (by kernel_rfl) (by kernel_rfl) (by kernel_rfl) (fun _ _ _ h => h) (.inl ⟨by rfl, fun w'' hS => by have q0 := (HC.out w'' hS.1).2.1; go_simp⟩) hS0 ?_
  (simp only [List.setIfInBounds_toArray, List.set_cons_zero, List.set_cons_succ])
  refine anyH_take 14 19 (.int .i64 (m : Nat)) rfl rfl (by kernel_rfl) (by kernel_rfl) (by kernel_rfl) (fun _ _ _ h => h) (.inl ⟨by rfl, fun w'' hS => by go_simp⟩) hS0 ?_
  (simp only [List.setIfInBounds_toArray, List.set_cons_zero, List.set_cons_succ])
  refine anyH_take 15 20 (.int .i64 (j : Nat)) rfl rfl (by kernel_rfl) (by kernel_rfl) (by kernel_rfl) (fun _ _ _ h => h) (.inl ⟨by rfl, fun w'' hS => by go_simp⟩) hS0 ?_
  (simp only [List.setIfInBounds_toArray, List.set_cons_zero, List.set_cons_succ])
  refine anyH_take 16 21 (.pointer (some ⟨b, off + j * 128, none⟩)) rfl rfl (by kernel_rfl) (by kernel_rfl) (by kernel_rfl) (fun _ _ _ h => h) (.inl ⟨by rfl, fun w'' hS => by go_simp⟩) hS0 ?_
  (simp only [List.setIfInBounds_toArray, List.set_cons_zero, List.set_cons_succ])
  refine anyH_take 17 22 (.agg (cellsB s).toArray) rfl rfl (by kernel_rfl) (by kernel_rfl) (by kernel_rfl) (fun _ _ _ h => h) (yieldsIf_load_mid (by rfl) _ _ rfl _ _ rfl _ _ (fun w' f => (HC.out w' f.1).2.2) hu rfl hsz) hS0 ?_
  (simp only [List.setIfInBounds_toArray, List.set_cons_zero, List.set_cons_succ])
  obtain ⟨y0, hl0, hb0⟩ := hS0.2
  have hb := hb0.over (o := 0) (m := s) (by rw [hl0, HS.out]; omega)
  rw [patch_all (by rw [hl0, HS.out])] at hb
  refine anyH_skip 18 _ (by kernel_rfl) rfl rfl (by rfl) (run_store_mid 31 _ _ rfl w.heap.size 0 (cellsB s).toArray rfl rfl (hb0.there (by simp [cellsB_len, hl0, HS.out])) (by rw [infoSector]; simp [cellsB_len, HS.out]) (all_oneCell_toArray (cellsB_one _))) ⟨Fr.setCells (.inr (Nat.le_refl _)) hS0.1, _, HS.out, hb⟩ ?_
  refine wpAnyH_done (by kernel_rfl) ?_ _
  have HE := Lib.hid (And.intro hb (Fr.setCells (F := fun _ => False) (vs := (cellsB s)) (o := 0) (.inr (Nat.le_refl _)) hS0.1))
  go_wp2_with fail
  refine bodyPost_ret (results_cell_row rfl _ _ w.heap.size 31 (cellsB s).toArray (0, 0) _ rfl HE.out.1 Try.underlying31 rfl (by rw [infoSector]; simp [cellsB_len, HS.out])) rfl ⟨rfl, HE.out.2⟩
end
end Go.Proofs.Ytiobmejnamdneaa
