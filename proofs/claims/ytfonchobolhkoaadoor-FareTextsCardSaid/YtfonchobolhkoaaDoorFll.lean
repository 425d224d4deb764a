/- The heap's methods of the landed code, over rows of two cells: Less, Swap, Pop. -/
import Derived.Test.YtfonchobolhkoaaDoorFlc
import Derived.Test.YtfonchobolhkoaaDoorFl4
import Derived.Great.BuildSlice
namespace Go.Proofs.YtfonchobolhkoaaDoor
open Go.RowKit

def lsA (x : Nat × Nat) : Value := .int .i64 (x.2 : Nat)
def lsB (x : Nat × Nat) : Value := .int .u64 (x.1 : Nat)
theorem infoLI : (Tryd.prog.info? 3).map (fun i => (i.zero, i.size, i.bytes)) = some (some (.int .i64 0), 1, 8) := by kernel_rfl
theorem slice2_int (x y : Int) (w : World) : (Instr.buildSlice 35 2 #[(0, .int .i64 x), (1, .int .i64 y)]).run Tryd.prog w = .ok (.slice (some ⟨w.heap.size, 0, none⟩) 2 2) (w.alloc (.cells #[.int .i64 x, .int .i64 y] 3)) := by
  obtain ⟨i0, hi, hz0, hz1, hz2⟩ := info_parts infoLI
  refine run_buildSlice w 35 3 2 _ _ i0 _ Tryd.underlying35 hi hz0 (by rw [hz1]; omega) (by rw [hz1]; omega) ?_
  rw [hz1]
  have hb : ((Array.range (2 * 1)).map ((Value.int .i64 0).cells[· % (Value.int .i64 0).cells.size]!)) = #[Value.int .i64 0, Value.int .i64 0] := by
    apply Array.ext
    · simp
    · intro i h1 h2
      simp at h1
      have h3 : i = 0 ∨ i = 1 := by omega
      rcases h3 with rfl | rfl <;> simp [Value.cells]
  rw [hb]
  simp [Instr.fill, Value.cells]
theorem cmp_less (x1 x2 y1 y2 : Nat) : decide (orI (cmpI (y1 : Int) (x1 : Int)) (cmpI (x2 : Int) (y2 : Int)) < 0) = lossB (x1, x2) (y1, y2) := by
  unfold lossB orI cmpI
  congr 1
  apply propext
  simp only
  repeat' split
  all_goals omega
set_option maxRecDepth 100000 in
set_option maxHeartbeats 4000000 in
theorem less_any {w : World} {B : Nat} {v : Value} {l : List (Nat × Nat)} {i j : Nat} {x y : Nat × Nat} (h : RowP 58 lsA lsB w B v l) (hl : l.length ≤ 100000) (hx : l[i]? = some x) (hy : l[j]? = some y) :
    Calls Tryd.prog 101 #[v, .int .i64 i, .int .i64 j] w fun e w' => e = .returned (.bool (lossB x y)) ∧ Fr (fun _ => False) w w' := by
  obtain ⟨g, c, rfl, hx1, hx2⟩ := h.cell hx
  obtain ⟨g', c', e1, hy1, hy2⟩ := h.cell hy
  obtain ⟨rfl, rfl⟩ : g = g' ∧ c = c' := by injection e1 with a b c; injection a with a; injection a with a; exact ⟨a, c⟩
  obtain ⟨hi, _⟩ := List.getElem?_eq_some_iff.1 hx
  obtain ⟨hj, _⟩ := List.getElem?_eq_some_iff.1 hy
  obtain ⟨m, hm⟩ : ∃ m, m = l.length := ⟨_, rfl⟩
  rw [← hm] at hi hj ⊢
  obtain ⟨x1, x2⟩ := x
  obtain ⟨y1, y2⟩ := y
  unfold lsA at hx1 hy1
  unfold lsB at hx2 hy2
  simp only at hx1 hx2 hy1 hy2
  have hgl := World.block_lt_of_cell? w _ hx1
  have HC := Lib.hid (And.intro (fun w'' (f : Fr (fun _ => False) w w'') => (f.cell (p := ⟨g, i * 2, none⟩) hgl (fun q => q)).trans hx1) (And.intro (fun w'' (f : Fr (fun _ => False) w w'') => (f.cell (p := ⟨g, i * 2 + 1, none⟩) hgl (fun q => q)).trans hx2) (And.intro (fun w'' (f : Fr (fun _ => False) w w'') => (f.cell (p := ⟨g, j * 2, none⟩) hgl (fun q => q)).trans hy1) (fun w'' (f : Fr (fun _ => False) w w'') => (f.cell (p := ⟨g, j * 2 + 1, none⟩) hgl (fun q => q)).trans hy2))))
  have HI := Lib.hid (And.intro (show (0 : Int) ≤ (i : Int) by omega) (And.intro (show (i : Int) < (m : Int) by omega) (And.intro (show (0 : Int) ≤ (j : Int) by omega) (show (j : Int) < (m : Int) by omega))))
  have HL := Lib.hid (cmp_less x1 x2 y1 y2)
  obtain ⟨p, hp⟩ : ∃ p, p = cmpI (y1 : Int) (x1 : Int) := ⟨_, rfl⟩
  obtain ⟨q, hq⟩ : ∃ q, q = cmpI (x2 : Int) (y2 : Int) := ⟨_, rfl⟩
  have HU := Lib.hid (cmp_u (y1 : Int) (x1 : Int))
  have HV := Lib.hid (cmp_i (x2 : Int) (y2 : Int))
  rw [← hp] at HU HL
  rw [← hq] at HV HL
  clear h hx hy e1 hm hl hi hj hx1 hx2 hy1 hy2 hgl hp hq
  go_enter Tryd.func101, Tryd.ntmps101
  go_wp2_with fail
  refine wp_region_held_drew (S := fun w' => Fr (fun _ => False) w w') (by kernel_rfl) ((Fr.refl _ w).drew) (fun hS0 => ?_)
  refine anyH_take 0 7 (.slice (some ⟨g, 0, none⟩) m c) rfl rfl (by kernel_rfl) (by kernel_rfl) (by kernel_rfl) (fun _ _ _ h => h) (.inl ⟨by rfl, fun w'' hS => by go_simp⟩) hS0 ?_
  (simp only [List.setIfInBounds_toArray, List.set_cons_zero, List.set_cons_succ])
  refine anyH_take 1 8 (.int .i64 (j : Nat)) rfl rfl (by kernel_rfl) (by kernel_rfl) (by kernel_rfl) (fun _ _ _ h => h) (.inl ⟨by rfl, fun w'' hS => by go_simp⟩) hS0 ?_
  (simp only [List.setIfInBounds_toArray, List.set_cons_zero, List.set_cons_succ])
  refine anyH_take 2 9 (.pointer (some ⟨g, j * 2, none⟩)) rfl rfl (by kernel_rfl) (by kernel_rfl) (by kernel_rfl) (fun _ _ _ h => h) (.inl ⟨by rfl, fun w'' hS => by have q0 := HI.out.2.2.1; have q1 := HI.out.2.2.2; go_simp⟩) hS0 ?_
  (simp only [List.setIfInBounds_toArray, List.set_cons_zero, List.set_cons_succ])
  refine anyH_take 3 10 (.pointer (some ⟨g, j * 2 + 1, none⟩)) rfl rfl (by kernel_rfl) (by kernel_rfl) (by kernel_rfl) (fun _ _ _ h => h) (.inl ⟨by rfl, fun w'' hS => by go_simp⟩) hS0 ?_
  (simp only [List.setIfInBounds_toArray, List.set_cons_zero, List.set_cons_succ])
  refine anyH_take 4 11 (.int .u64 (y1 : Nat)) rfl rfl (by kernel_rfl) (by kernel_rfl) (by kernel_rfl) (fun _ _ _ h => h) (.inl ⟨by rfl, fun w'' hS => by have q0 := HC.out.2.2.2 w'' hS; go_simp⟩) hS0 ?_
  (simp only [List.setIfInBounds_toArray, List.set_cons_zero, List.set_cons_succ])
  refine anyH_take 5 12 (.slice (some ⟨g, 0, none⟩) m c) rfl rfl (by kernel_rfl) (by kernel_rfl) (by kernel_rfl) (fun _ _ _ h => h) (.inl ⟨by rfl, fun w'' hS => by go_simp⟩) hS0 ?_
  (simp only [List.setIfInBounds_toArray, List.set_cons_zero, List.set_cons_succ])
  refine anyH_take 6 13 (.int .i64 (i : Nat)) rfl rfl (by kernel_rfl) (by kernel_rfl) (by kernel_rfl) (fun _ _ _ h => h) (.inl ⟨by rfl, fun w'' hS => by go_simp⟩) hS0 ?_
  (simp only [List.setIfInBounds_toArray, List.set_cons_zero, List.set_cons_succ])
  refine anyH_take 7 14 (.pointer (some ⟨g, i * 2, none⟩)) rfl rfl (by kernel_rfl) (by kernel_rfl) (by kernel_rfl) (fun _ _ _ h => h) (.inl ⟨by rfl, fun w'' hS => by have q0 := HI.out.1; have q1 := HI.out.2.1; go_simp⟩) hS0 ?_
  (simp only [List.setIfInBounds_toArray, List.set_cons_zero, List.set_cons_succ])
  refine anyH_take 8 15 (.pointer (some ⟨g, i * 2 + 1, none⟩)) rfl rfl (by kernel_rfl) (by kernel_rfl) (by kernel_rfl) (fun _ _ _ h => h) (.inl ⟨by rfl, fun w'' hS => by go_simp⟩) hS0 ?_
  (simp only [List.setIfInBounds_toArray, List.set_cons_zero, List.set_cons_succ])
  refine anyH_take 9 16 (.int .u64 (x1 : Nat)) rfl rfl (by kernel_rfl) (by kernel_rfl) (by kernel_rfl) (fun _ _ _ h => h) (.inl ⟨by rfl, fun w'' hS => by have q0 := HC.out.2.1 w'' hS; go_simp⟩) hS0 ?_
  (simp only [List.setIfInBounds_toArray, List.set_cons_zero, List.set_cons_succ])
  refine anyH_take 11 18 (.slice (some ⟨g, 0, none⟩) m c) rfl rfl (by kernel_rfl) (by kernel_rfl) (by kernel_rfl) (fun _ _ _ h => h) (.inl ⟨by rfl, fun w'' hS => by go_simp⟩) hS0 ?_
  (simp only [List.setIfInBounds_toArray, List.set_cons_zero, List.set_cons_succ])
  refine anyH_take 12 19 (.int .i64 (i : Nat)) rfl rfl (by kernel_rfl) (by kernel_rfl) (by kernel_rfl) (fun _ _ _ h => h) (.inl ⟨by rfl, fun w'' hS => by go_simp⟩) hS0 ?_
  (simp only [List.setIfInBounds_toArray, List.set_cons_zero, List.set_cons_succ])
  refine anyH_take 13 20 (.pointer (some ⟨g, i * 2, none⟩)) rfl rfl (by kernel_rfl) (by kernel_rfl) (by kernel_rfl) (fun _ _ _ h => h) (.inl ⟨by rfl, fun w'' hS => by have q0 := HI.out.1; have q1 := HI.out.2.1; go_simp⟩) hS0 ?_
  (simp only [List.setIfInBounds_toArray, List.set_cons_zero, List.set_cons_succ])
  refine anyH_take 14 21 (.pointer (some ⟨g, i * 2, none⟩)) rfl rfl (by kernel_rfl) (by kernel_rfl) (by kernel_rfl) (fun _ _ _ h => h) (.inl ⟨by rfl, fun w'' hS => by go_simp⟩) hS0 ?_
  (simp only [List.setIfInBounds_toArray, List.set_cons_zero, List.set_cons_succ])
  refine anyH_take 15 22 (.int .i64 (x2 : Nat)) rfl rfl (by kernel_rfl) (by kernel_rfl) (by kernel_rfl) (fun _ _ _ h => h) (.inl ⟨by rfl, fun w'' hS => by have q0 := HC.out.1 w'' hS; go_simp⟩) hS0 ?_
  (simp only [List.setIfInBounds_toArray, List.set_cons_zero, List.set_cons_succ])
  refine anyH_take 16 23 (.slice (some ⟨g, 0, none⟩) m c) rfl rfl (by kernel_rfl) (by kernel_rfl) (by kernel_rfl) (fun _ _ _ h => h) (.inl ⟨by rfl, fun w'' hS => by go_simp⟩) hS0 ?_
  (simp only [List.setIfInBounds_toArray, List.set_cons_zero, List.set_cons_succ])
  refine anyH_take 17 24 (.int .i64 (j : Nat)) rfl rfl (by kernel_rfl) (by kernel_rfl) (by kernel_rfl) (fun _ _ _ h => h) (.inl ⟨by rfl, fun w'' hS => by go_simp⟩) hS0 ?_
  (simp only [List.setIfInBounds_toArray, List.set_cons_zero, List.set_cons_succ])
  refine anyH_take 18 25 (.pointer (some ⟨g, j * 2, none⟩)) rfl rfl (by kernel_rfl) (by kernel_rfl) (by kernel_rfl) (fun _ _ _ h => h) (.inl ⟨by rfl, fun w'' hS => by have q0 := HI.out.2.2.1; have q1 := HI.out.2.2.2; go_simp⟩) hS0 ?_
  (simp only [List.setIfInBounds_toArray, List.set_cons_zero, List.set_cons_succ])
  refine anyH_take 19 26 (.pointer (some ⟨g, j * 2, none⟩)) rfl rfl (by kernel_rfl) (by kernel_rfl) (by kernel_rfl) (fun _ _ _ h => h) (.inl ⟨by rfl, fun w'' hS => by go_simp⟩) hS0 ?_
  (simp only [List.setIfInBounds_toArray, List.set_cons_zero, List.set_cons_succ])
  refine anyH_take 20 27 (.int .i64 (y2 : Nat)) rfl rfl (by kernel_rfl) (by kernel_rfl) (by kernel_rfl) (fun _ _ _ h => h) (.inl ⟨by rfl, fun w'' hS => by have q0 := HC.out.2.2.1 w'' hS; go_simp⟩) hS0 ?_
  (simp only [List.setIfInBounds_toArray, List.set_cons_zero, List.set_cons_succ])
  refine anyH_one 10 17 (.int .i64 p) (by kernel_rfl) (tame_call 17 rfl rfl (by rfl) (fun w'' hS => by go_simp) (fun w'' hS => (HU.out w'').mono fun e w3 he => ⟨he.1, he.2 ▸ hS⟩)) hS0 (fun w0 hS0' => ?_)
  (simp only [List.setIfInBounds_toArray, List.set_cons_zero, List.set_cons_succ])
  refine anyH_one 21 28 (.int .i64 q) (by kernel_rfl) (tame_call 28 rfl rfl (by rfl) (fun w'' hS => by go_simp) (fun w'' hS => (HV.out w'').mono fun e w3 he => ⟨he.1, he.2 ▸ hS⟩)) hS0' (fun w1 hS1 => ?_)
  (simp only [List.setIfInBounds_toArray, List.set_cons_zero, List.set_cons_succ])
  have hsl := slice2_int p q w1
  refine anyH_value 22 29 (.slice (some ⟨w1.heap.size, 0, none⟩) 2 2) (w1.alloc (.cells #[.int .i64 p, .int .i64 q] 3)) (by kernel_rfl) rfl rfl (by rfl) (by go_simp) (hS1.alloc _) ?_
  (simp only [List.setIfInBounds_toArray, List.set_cons_zero, List.set_cons_succ])
  have hb := Blk.new w1 3 #[.int .i64 p, .int .i64 q]
  refine anyH_enter 23 30 (f := 103) (args := #[.slice (some ⟨w1.heap.size, 0, none⟩) 2 2]) (by kernel_rfl) rfl rfl (by rfl) (by go_simp) ((or_any p q (hb.cell 0) (hb.cell 1)).mono ?_)
  rintro e w3 ⟨rfl, rfl⟩
  refine ⟨_, rfl, hS1.alloc _, ?_⟩
  (simp only [List.setIfInBounds_toArray, List.set_cons_zero, List.set_cons_succ])
  have HF := Lib.hid (hS1.alloc (.cells #[.int .i64 p, .int .i64 q] 3))
  clear hsl hb HU HV HC HI
  have hS3 := HF.out
  refine anyH_take 24 31 (.bool (lossB (x1, x2) (y1, y2))) rfl rfl (by kernel_rfl) (by kernel_rfl) (by kernel_rfl) (fun _ _ _ h => h) (.inl ⟨by rfl, fun w'' hS => by rw [← HL.out]; go_simp⟩) hS3 ?_
  (simp only [List.setIfInBounds_toArray, List.set_cons_zero, List.set_cons_succ])
  refine anyH_take 25 6 (.bool (lossB (x1, x2) (y1, y2))) rfl rfl (by kernel_rfl) (by kernel_rfl) (by kernel_rfl) (fun _ _ _ h => h) (.inl ⟨by rfl, fun w'' hS => by go_simp⟩) hS3 ?_
  (simp only [List.setIfInBounds_toArray, List.set_cons_zero, List.set_cons_succ])
  refine wpAnyH_done (by kernel_rfl) ?_ _
  go_wp2_with fail
  go_ret
  exact ⟨rfl, HF.out⟩
set_option maxRecDepth 100000 in
set_option maxHeartbeats 4000000 in
theorem swap_any {w : World} {B : Nat} {v : Value} {l : List (Nat × Nat)} {i j : Nat} {x y : Nat × Nat} (h : RowP 58 lsA lsB w B v l) (hl : l.length ≤ 100000) (hx : l[i]? = some x) (hy : l[j]? = some y) :
    Calls Tryd.prog 102 #[v, .int .i64 i, .int .i64 j] w fun e w' => e = .returned (.tuple #[]) ∧ RowP 58 lsA lsB w' B v (swL (0, 0) l i j) ∧ Fr (fun k => v.ownBlock = some k) w w' := by
  have hsw : swL (0, 0) l i j = (l.set i y).set j x := by unfold swL; rw [getD_at hx, getD_at hy]
  obtain ⟨g, c, rfl, hx1, hx2⟩ := h.cell hx
  obtain ⟨g', c', e1, hy1, hy2⟩ := h.cell hy
  obtain ⟨rfl, rfl⟩ : g = g' ∧ c = c' := by injection e1 with a b c; injection a with a; injection a with a; exact ⟨a, c⟩
  obtain ⟨hi, _⟩ := List.getElem?_eq_some_iff.1 hx
  obtain ⟨hj, _⟩ := List.getElem?_eq_some_iff.1 hy
  have hf : ∀ k, w.frozen? ⟨g, k, none⟩ = false := fun k => h.frozen
  obtain ⟨m, hm⟩ : ∃ m, m = l.length := ⟨_, rfl⟩
  rw [← hm] at hi hj h ⊢
  have HR := Lib.hid (And.intro h hsw)
  obtain ⟨x1, x2⟩ := x
  obtain ⟨y1, y2⟩ := y
  unfold lsA at hx1 hy1
  unfold lsB at hx2 hy2
  simp only at hx1 hx2 hy1 hy2
  have hi0 : (0 : Int) ≤ (i : Int) := by omega
  have hj0 : (0 : Int) ≤ (j : Int) := by omega
  have hii : (i : Int) < (m : Int) := by omega
  have hjj : (j : Int) < (m : Int) := by omega
  clear h hx hy e1 hm hsw
  obtain ⟨z1, hz1⟩ := cell?_setCell_some (p := ⟨g, i * 2, none⟩) (x := .int .i64 (y2 : Nat)) hy1
  obtain ⟨z3, hz3⟩ := cell?_setCell_some (p := ⟨g, i * 2, none⟩) (x := .int .i64 (y2 : Nat)) hy2
  obtain ⟨z2, hz2⟩ := cell?_setCell_some (p := ⟨g, i * 2 + 1, none⟩) (x := .int .u64 (y1 : Nat)) hz3
  go_enter Tryd.func102, Tryd.ntmps102
  go_wp2_with fail
  go_region
  go_wp2_with fail
  go_end0
  refine ⟨rfl, ?_, ?_⟩
  · rw [HR.out.2]
    have h2 := (HR.out.1.set (i := i) (y1, y2)).set (i := j) (x1, x2)
    exact h2.keep0 (Fr.refl _ _).drew
  · exact ((((((Fr.refl (fun k => (Value.slice (some ⟨g, 0, none⟩) m c).ownBlock = some k) w).setCell (p := ⟨g, i * 2, none⟩) (.inl rfl) _).setCell (p := ⟨g, i * 2 + 1, none⟩) (.inl rfl) _).setCell (p := ⟨g, j * 2, none⟩) (.inl rfl) _).setCell (p := ⟨g, j * 2 + 1, none⟩) (.inl rfl) _)).drew
set_option maxRecDepth 100000 in
set_option maxHeartbeats 4000000 in
theorem pop_any {w : World} {B p g c : Nat} {l : List (Nat × Nat)} {x : Nat × Nat} {n : Nat} (hn : n = l.length) (h : RowP 58 lsA lsB w B (.slice (some ⟨g, 0, none⟩) (n + 1) c) (l ++ [x])) (hl : n < 100000) (hp : w.cell? ⟨p, 0, none⟩ = some (.slice (some ⟨g, 0, none⟩) (n + 1 : Nat) c)) (hpf : w.frozen? ⟨p, 0, none⟩ = false) (hne : p ≠ g) :
    Calls Tryd.prog 108 #[.pointer (some ⟨p, 0, none⟩)] w fun e w' => e = .returned (.iface 58 (.agg #[lsA x, lsB x])) ∧ RowP 58 lsA lsB w' B (.slice (some ⟨g, 0, none⟩) n c) l ∧ w'.cell? ⟨p, 0, none⟩ = some (.slice (some ⟨g, 0, none⟩) n c) ∧ w'.frozen? ⟨p, 0, none⟩ = false ∧ Fr (fun k => k = p) w w' := by
  obtain ⟨g', c', e1, hx1, hx2⟩ := h.cell (show (l ++ [x])[n]? = some x by rw [hn]; simp)
  obtain ⟨rfl, rfl⟩ : g = g' ∧ c = c' := by injection e1 with a b c; injection a with a; injection a with a; exact ⟨a, c⟩
  obtain ⟨x1, x2⟩ := x
  unfold lsA at hx1
  unfold lsB at hx2
  simp only at hx1 hx2
  have HR := Lib.hid (And.intro h (And.intro hn hne))
  have hn9 : (n : Int) ≤ 100000 := by omega
  have hn0 : (0 : Int) ≤ (n : Int) := by omega
  obtain ⟨m, hm⟩ : ∃ m, m = n + 1 := ⟨_, rfl⟩
  have hmi : (m : Int) = (n : Int) + 1 := by omega
  rw [← hm] at hp
  have hm1 : (m : Int) - 1 = (n : Int) := by omega
  have hnm : (n : Int) < (m : Int) := by omega
  have hnc : n ≤ c := by
    obtain ⟨_, ⟨h0, _⟩ | ⟨g', cap', cur, e0, _, _, h5, _⟩⟩ := HR.out.1
    · cases h0
    · injection e0 with a b c
      rw [c]
      have := HR.out.2.1
      rw [List.length_append] at h5
      omega
  clear hm hmi
  have hpl := World.block_lt_of_cell? w _ hp
  have hgl := World.block_lt_of_cell? w _ hx1
  clear h e1 hn hl
  go_enter Tryd.func108, Tryd.ntmps108
  go_wp2_with fail
  go_ret
  have f1 : Fr (fun k => k = p) w (w.setCell ⟨p, 0, none⟩ (.slice (some ⟨g, 0, none⟩) n c)) := (Fr.refl (fun k => k = p) w).setCell (p := ⟨p, 0, none⟩) (.inl rfl) _
  have f2 : Fr (fun _ => False) (w.setCell ⟨p, 0, none⟩ (.slice (some ⟨g, 0, none⟩) n c)) ((w.setCell ⟨p, 0, none⟩ (.slice (some ⟨g, 0, none⟩) n c)).alloc (Obj.cells #[Value.int IntKind.i64 x2, Value.int IntKind.u64 x1] 58)) := (Fr.refl _ _).alloc _
  have f3 : Fr (fun k => k = p) w _ := f1.trans f2 (fun _ _ q => q.elim)
  have hc : (w.setCell ⟨p, 0, none⟩ (.slice (some ⟨g, 0, none⟩) n c)).cell? ⟨p, 0, none⟩ = some (.slice (some ⟨g, 0, none⟩) n c) := World.cell?_setCell_same' _ _ _ (by rw [hp]; rfl)
  refine ⟨rfl, ?_, ?_, ?_, f3⟩
  · have h2 := HR.out.1.cut
    rw [← HR.out.2.1] at h2
    exact h2.keep f3 (fun k hk e => HR.out.2.2 (by simp [Value.ownBlock] at hk; omega))
  · exact (f2.cell (World.block_lt_of_cell? _ _ hc) (fun q => q)).trans hc
  · rw [f2.frozen (World.block_lt_of_cell? _ _ hc) (fun q => q)]
    simpa [go_sem] using hpf
end Go.Proofs.YtfonchobolhkoaaDoor
