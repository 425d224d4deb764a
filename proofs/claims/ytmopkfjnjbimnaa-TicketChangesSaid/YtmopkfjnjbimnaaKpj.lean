/- ticket's become. -/
import Derived.Test.YtmopkfjnjbimnaaKpi
namespace Go.Proofs.Ytmopkfjnjbimnaa
open Go.RowKit

theorem run_store_mid {P : Program} {o : Oper} {a : Act} {w : World} (ty : TypeId) (x y : Operand) (ho : o.op = .store ty x y)
    (b f : Nat) (cells : Array Value) (hx : a.eval x = .pointer (some ⟨b, f, none⟩)) (hy : a.eval y = .agg cells)
    (ht : w.there b f cells.size) (hi : (P.info? ty).map (·.size) = some cells.size) (h1 : cells.all (·.oneCell') = true) : (execOp a.eval o).run P w = .ok .skip (w.setCells b f cells.toList) := by
  have hr := run_storeVar_mid (P := P) w b f ty cells ht hi h1
  unfold execOp
  simp only [ho, hx, hy, Instr.storeAt, Instr.sureAddr, Sem.run_bind, Sem.run_pure, Result.andThen_ok, hr]
def becD (c : CpD) (s : Int) (k : Nat) : CpD := { c with st := s, ho := if s = 9 then ((min k 1001 : Nat) : Int) else 0, nx := if s = 5 then k else 0 }
theorem becD_chg (c : CpD) (own : Nat) (s : Int) (k : Nat) (h : withB own s k = true) : becD c s k = chgCp c s k := by
  unfold becD chgCp
  by_cases h9 : s = 9
  · unfold withB at h
    rw [if_pos h9, decide_eq_true_eq] at h
    rw [Nat.min_eq_left (by omega)]
  · rw [if_neg h9, if_neg h9]
theorem wB_bec (c : CpD) (own : Nat) (s : Int) (k : Nat) (h : s = 9 ∨ s = 5) : wB own (becD c s k) = withB own s k := by
  rcases h with rfl | rfl
  · unfold wB becD withB
    rw [Bool.eq_iff_iff]
    simp
    have := car_lt own
    omega
  · unfold wB becD withB
    simp
theorem run_min_u64 {P : Program} (w : World) (ts : Array TypeId) (t : TypeId) (k : Nat) : (Builtin.min_ ts t #[.int .u64 (k : Nat), .int .u64 1001]).run P w = .ok (.int .u64 ((min k 1001 : Nat) : Int)) w := by
  by_cases h : k < 1001
  · have h1 : (k : Int) < 1001 := by omega
    rw [Nat.min_eq_left (by omega)]
    simp [Builtin.min_, Builtin.min2, asBool, h, h1]
    try omega
  · have h1 : ¬ (k : Int) < 1001 := by omega
    rw [Nat.min_eq_right (by omega)]
    by_cases h2 : (k : Int) = 1001
    · simp [Builtin.min_, Builtin.min2, asBool, h, h1, h2]
    · simp [Builtin.min_, Builtin.min2, asBool, h, h1, h2]
      try omega
theorem results_cp {fn : Func} {p u : Tmp} (h : fn.results = #[.cell p 49, .tmp u]) (tmps : Array Value) (w : World) (g : Nat) (cs : Array Value) (hp : tmps.getD p undef = .pointer (some ⟨g, 0, none⟩)) (hg : Blk w g 49 cs) (hc : cs.size = 6) :
    (results fn tmps).run Try.prog w = .ok (.tuple #[.agg cs, tmps.getD u undef]) w := by
  have hr := run_loadVar_row (P := Try.prog) w g 49 49 cs (0, 0) _ hg Try.underlying49 rfl (by rw [info_size infoCp, hc])
  rw [results_cell_tmp h, hp]
  simp [asAddr, hr, Result.andThen]
set_option maxRecDepth 100000 in
set_option maxHeartbeats 8000000 in
theorem pbecome_any (c : CpD) (hc : CpOk c) (s : Int) (hs : i64B s) (k : Nat) (hk : u64B k) (own : Nat) (ho : u64B own) (w : World) :
    Calls Try.prog 51 #[.agg (cpC c).toArray, .int .i64 s, .int .u64 (k : Nat), .int .u64 (own : Nat)] w fun e w' => e = .returned (.tuple #[.agg (cpC (becD c s k)).toArray, .bool (withB own s k)]) ∧ Fr (fun _ => False) w w' := by
  obtain ⟨r, hr⟩ : ∃ r, r = withB own s k := ⟨_, rfl⟩
  obtain ⟨C, hC⟩ : ∃ C, C = becD c s k := ⟨_, rfl⟩
  rw [← hr, ← hC]
  have HR := Lib.hid (And.intro hr hC)
  have hck : CpOk (becD c s k) := ⟨hc.fl, hc.dy, hc.va, hs, by unfold becD i64B; simp only; split <;> omega, (by unfold becD; simp only; split; exact hk; exact (by unfold u64B; omega))⟩
  have HW := Lib.hid (fun W => pwith_any (becD c s k) hck own ho W)
  have HMIN := Lib.hid (fun ts t W => run_min_u64 (P := Try.prog) W ts t k)
  obtain ⟨fl, dy, va, st, ho0, nx⟩ := c
  obtain ⟨W0, hW0⟩ : ∃ W0, W0 = (w.alloc (.cells #[.int .i64 fl, .int .i64 dy, .int .i64 va, .int .i64 st, .int .i64 ho0, .int .u64 (nx : Nat)] 49)).alloc (.cells #[.int .i64 0, .int .i64 0, .int .i64 0, .int .i64 0, .int .i64 0, .int .u64 0] 49) := ⟨_, rfl⟩
  have HB : Hid (Fr (fun _ => False) w W0 ∧ Blk W0 w.heap.size 49 #[.int .i64 fl, .int .i64 dy, .int .i64 va, .int .i64 st, .int .i64 ho0, .int .u64 (nx : Nat)] ∧ Blk W0 (w.heap.size + 1) 49 #[.int .i64 0, .int .i64 0, .int .i64 0, .int .i64 0, .int .i64 0, .int .u64 0]) := Lib.hid (by
    rw [hW0]
    have e9 : (w.alloc (.cells #[.int .i64 fl, .int .i64 dy, .int .i64 va, .int .i64 st, .int .i64 ho0, .int .u64 (nx : Nat)] 49)).heap.size = w.heap.size + 1 := Array.size_push _
    refine ⟨((Fr.refl _ w).alloc _).alloc _, (Blk.new w _ _).keep ((Fr.refl (fun _ => False) _).alloc _) (fun q => q), ?_⟩
    have := Blk.new (w.alloc (.cells #[.int .i64 fl, .int .i64 dy, .int .i64 va, .int .i64 st, .int .i64 ho0, .int .u64 (nx : Nat)] 49)) 49 #[.int .i64 0, .int .i64 0, .int .i64 0, .int .i64 0, .int .i64 0, .int .u64 0]
    rwa [e9] at this)
  have HQ := Lib.hid hW0
  have hb0 := HB.out.2.1
  have hb1 := hb0.set_ 3 (.int .i64 s)
  have hb2 := hb1.set_ 4 (.int .i64 0)
  have hb3 := hb2.set_ 5 (.int .u64 0)
  have hf0 := hb0.frozen 3
  have hf1 := hb1.frozen 4
  have hf2 := hb2.frozen 5
  have hc0 := cp_cell hb0 3 rfl
  have hc1 := cp_cell hb1 4 rfl
  have hc2 := cp_cell hb2 5 rfl
  obtain ⟨W3, hW3⟩ : ∃ W, W = (((W0.setCell ⟨w.heap.size, 3, none⟩ (.int .i64 s)).setCell ⟨w.heap.size, 4, none⟩ (.int .i64 0)).setCell ⟨w.heap.size, 5, none⟩ (.int .u64 0)) := ⟨_, rfl⟩
  have HB3 : Hid (Fr (fun b => b = w.heap.size) W0 W3 ∧ Blk W3 w.heap.size 49 #[.int .i64 fl, .int .i64 dy, .int .i64 va, .int .i64 s, .int .i64 0, .int .u64 0] ∧ Blk W3 (w.heap.size + 1) 49 #[.int .i64 0, .int .i64 0, .int .i64 0, .int .i64 0, .int .i64 0, .int .u64 0]) := Lib.hid (by
    have f : Fr (fun b => b = w.heap.size) W0 W3 := by rw [hW3]; exact (((Fr.refl (fun b => b = w.heap.size) W0).setCell (p := ⟨w.heap.size, 3, none⟩) (.inl rfl) _).setCell (p := ⟨w.heap.size, 4, none⟩) (.inl rfl) _).setCell (p := ⟨w.heap.size, 5, none⟩) (.inl rfl) _
    refine ⟨f, by rw [hW3]; exact hb3, HB.out.2.2.keep f (fun q => by have h6 : w.heap.size + 1 = w.heap.size := q; omega)⟩)
  have HQ3 := Lib.hid hW3
  have HF3 := Lib.hid (HB.out.1.trans HB3.out.1 (fun b hb q => by have h6 : b = w.heap.size := q; omega))
  clear hW0 hW3 hb0 hb1 hb2 hb3 hr hC hck hc hs hk ho
  show Calls Try.prog 51 #[.agg #[.int .i64 fl, .int .i64 dy, .int .i64 va, .int .i64 st, .int .i64 ho0, .int .u64 (nx : Nat)], .int .i64 s, .int .u64 (k : Nat), .int .u64 (own : Nat)] w _
  by_cases h9 : s = 9
  · have b9 : (s == 9) = true := by rw [beq_iff_eq]; exact h9
    obtain ⟨m, hm⟩ : ∃ m, m = min k 1001 := ⟨_, rfl⟩
    have hm2 : m ≤ 1001 := by rw [hm]; exact Nat.min_le_right _ _
    have hwm : wrap64 (m : Int) = (m : Int) := wrap64_in (by omega) (by omega)
    have hwi : IntKind.i64.wrap (m : Int) = (m : Int) := wrapI_id (by omega) (by omega)
    have hbec : becD ⟨fl, dy, va, st, ho0, nx⟩ s k = ⟨fl, dy, va, s, ((m : Nat) : Int), 0⟩ := by unfold becD; simp [h9, hm]
    have HC : Hid (C = ⟨fl, dy, va, s, ((m : Nat) : Int), 0⟩) := Lib.hid (by rw [HR.out.2, hbec])
    have HW9 : Hid (∀ W, Calls Try.prog 83 #[.agg #[.int .i64 fl, .int .i64 dy, .int .i64 va, .int .i64 s, .int .i64 ((m : Nat) : Int), .int .u64 0], .int .u64 (own : Nat)] W fun e w' => e = .returned (.bool r) ∧ Fr (fun _ => False) W w') := Lib.hid (fun W => by
      have h55 := HW.out W
      rw [wB_bec _ own s k (.inl h9), ← HR.out.1, hbec] at h55
      exact h55)
    have hmin := fun ts t W => HMIN.out ts t W
    simp only [← hm] at hmin
    have HH := Lib.hid h9
    clear h9 hm hbec hm2 HW 
    go_enter Try.func51, Try.ntmps51
    go_upto_region 1 with fail
    rw [← HQ.out]
    clear HQ
    go_upto_region 2 with fail
    rw [← HQ3.out]
    clear HQ3 hf0 hf1 hf2 hc0 hc1 hc2
    have hq0 : W3.cell? ⟨w.heap.size, 4, none⟩ = some (.int .i64 0) := cp_cell HB3.out.2.1 4 rfl
    have hqf := HB3.out.2.1.frozen 4
    obtain ⟨W4, hW4⟩ : ∃ W, W = W3.setCell ⟨w.heap.size, 4, none⟩ (.int .i64 ((m : Nat) : Int)) := ⟨_, rfl⟩
    have HB4 : Hid (Fr (fun b => b = w.heap.size) W3 W4 ∧ Blk W4 w.heap.size 49 #[.int .i64 fl, .int .i64 dy, .int .i64 va, .int .i64 s, .int .i64 ((m : Nat) : Int), .int .u64 0] ∧ Blk W4 (w.heap.size + 1) 49 #[.int .i64 0, .int .i64 0, .int .i64 0, .int .i64 0, .int .i64 0, .int .u64 0]) := Lib.hid (by
      have f : Fr (fun b => b = w.heap.size) W3 W4 := by rw [hW4]; exact (Fr.refl (fun b => b = w.heap.size) W3).setCell (p := ⟨w.heap.size, 4, none⟩) (.inl rfl) _
      refine ⟨f, by rw [hW4]; exact HB3.out.2.1.set_ 4 _, HB3.out.2.2.keep f (fun q => by have h6 : w.heap.size + 1 = w.heap.size := q; omega)⟩)
    have HF4 := Lib.hid (HF3.out.trans HB4.out.1 (fun b hb q => by have h6 : b = w.heap.size := q; omega))
    have HQ4 := Lib.hid hW4
    clear hW4
    go_upto_region 8 with fail
    rw [← HQ4.out]
    clear HQ4 hq0 hqf hmin
    refine wp_region_held_drew (S := fun w' => Fr (fun b => b = w.heap.size + 1) W4 w') (by kernel_rfl) ((Fr.refl (fun b => b = w.heap.size + 1) W4).drew) (fun hS0 => ?_)
    refine anyH_take 0 28 (.agg #[.int .i64 fl, .int .i64 dy, .int .i64 va, .int .i64 s, .int .i64 ((m : Nat) : Int), .int .u64 0]) rfl rfl (by kernel_rfl) (by kernel_rfl) (by kernel_rfl) (fun _ _ _ h => h) (yieldsIf_load_mid rfl 49 (.tmp 4) rfl w.heap.size 0 rfl (#[.int .i64 fl, .int .i64 dy, .int .i64 va, .int .i64 s, .int .i64 ((m : Nat) : Int), .int .u64 0]).toList _ (fun w'' hS => blk_range (HB4.out.2.1.keep hS (fun q => by have h6 : w.heap.size = w.heap.size + 1 := q; omega))) Try.underlying49 rfl (info_size infoCp)) hS0 ?_
    (simp only [List.setIfInBounds_toArray, List.set_cons_zero, List.set_cons_succ])
    refine anyH_take 1 29 (.agg #[.int .i64 fl, .int .i64 dy, .int .i64 va, .int .i64 s, .int .i64 ((m : Nat) : Int), .int .u64 0]) rfl rfl (by kernel_rfl) (by kernel_rfl) (by kernel_rfl) (fun _ _ _ h => h) (yieldsIf_load_mid rfl 49 (.tmp 4) rfl w.heap.size 0 rfl (#[.int .i64 fl, .int .i64 dy, .int .i64 va, .int .i64 s, .int .i64 ((m : Nat) : Int), .int .u64 0]).toList _ (fun w'' hS => blk_range (HB4.out.2.1.keep hS (fun q => by have h6 : w.heap.size = w.heap.size + 1 := q; omega))) Try.underlying49 rfl (info_size infoCp)) hS0 ?_
    (simp only [List.setIfInBounds_toArray, List.set_cons_zero, List.set_cons_succ])
    refine anyH_take 2 30 (.int .u64 (own : Nat)) rfl rfl (by kernel_rfl) (by kernel_rfl) (by kernel_rfl) (fun _ _ _ h => h) (.inl ⟨by rfl, fun w'' hS => by go_simp⟩) hS0 ?_
    (simp only [List.setIfInBounds_toArray, List.set_cons_zero, List.set_cons_succ])
    have hS1 := (Fr.refl (fun _ => False) W4).drew
    refine anyH_enter 3 31 (f := 83) (args := #[.agg #[.int .i64 fl, .int .i64 dy, .int .i64 va, .int .i64 s, .int .i64 ((m : Nat) : Int), .int .u64 0], .int .u64 (own : Nat)]) (by kernel_rfl) rfl rfl (by rfl) (by go_simp) ?_
    refine (HW9.out _).mono ?_
    rintro e w8 ⟨rfl, f8⟩
    refine ⟨_, rfl, hS0.trans f8 (fun _ _ q => q.elim), ?_⟩
    (simp only [List.setIfInBounds_toArray, List.set_cons_zero, List.set_cons_succ])
    have hS8 := hS1.trans f8 (fun _ _ q => q)
    have hbz := HB4.out.2.2.keep hS8 (fun q => q)
    obtain ⟨W9, hW9⟩ : ∃ W, W = w8.setCells (w.heap.size + 1) 0 (#[.int .i64 fl, .int .i64 dy, .int .i64 va, .int .i64 s, .int .i64 ((m : Nat) : Int), .int .u64 0]).toList := ⟨_, rfl⟩
    have hS7 := HF4.out.trans hS8 (fun _ _ q => q)
    have hx7 := fr_cells (F := fun _ => False) (a := w) (b := w.heap.size + 1) (.inr (Nat.le_succ _)) (#[.int .i64 fl, .int .i64 dy, .int .i64 va, .int .i64 s, .int .i64 ((m : Nat) : Int), .int .u64 0] : Array Value).toList 0 w8 hS7
    have hy7 := (Fr.refl (fun b => b = w.heap.size + 1) W4).trans hS8 (fun _ _ q => q.elim)
    have hx8 := fr_cells (F := fun b => b = w.heap.size + 1) (a := W4) (b := w.heap.size + 1) (.inl rfl) (#[.int .i64 fl, .int .i64 dy, .int .i64 va, .int .i64 s, .int .i64 ((m : Nat) : Int), .int .u64 0] : Array Value).toList 0 w8 hy7
    have HBZ : Hid (Blk W9 (w.heap.size + 1) 49 #[.int .i64 fl, .int .i64 dy, .int .i64 va, .int .i64 s, .int .i64 ((m : Nat) : Int), .int .u64 0] ∧ Fr (fun _ => False) w W9) := Lib.hid (by rw [hW9]; exact ⟨blk_row hbz rfl, hx7⟩)
    have hS9 : Fr (fun b => b = w.heap.size + 1) W4 W9 := by rw [hW9]; exact hx8
    refine anyH_skip 4 W9 (by kernel_rfl) rfl rfl (by rfl) (by rw [hW9]; exact run_store_mid 49 (.tmp 8) (.tmp 28) rfl (w.heap.size + 1) 0 (#[.int .i64 fl, .int .i64 dy, .int .i64 va, .int .i64 s, .int .i64 ((m : Nat) : Int), .int .u64 0]) rfl rfl (blk_there hbz (Nat.le_refl 6)) (info_size infoCp) (by simp [Value.oneCell'])) (hS9) ?_
    refine anyH_value 5 9 (.bool r) W9 (by kernel_rfl) rfl rfl (by rfl) (by go_simp) (hS9) ?_
    (simp only [List.setIfInBounds_toArray, List.set_cons_zero, List.set_cons_succ])
    refine wpAnyH_done (by kernel_rfl) ?_ _
    clear hbz hS0 hS1 hS7 hS8 f8 hW9 hS9 hx7 hx8 hy7
    go_wp2_with fail
    refine bodyPost_ret (results_cp rfl _ _ (w.heap.size + 1) (#[.int .i64 fl, .int .i64 dy, .int .i64 va, .int .i64 s, .int .i64 ((m : Nat) : Int), .int .u64 0]) rfl HBZ.out.1 rfl) rfl ?_
    exact ⟨by rw [HC.out]; rfl, HBZ.out.2⟩
  · by_cases h5 : s = 5
    · have b9 : (s == 9) = false := by rw [beq_eq_false_iff_ne]; exact h9
      have b5 : (s == 5) = true := by rw [beq_iff_eq]; exact h5
      obtain ⟨m, hm⟩ : ∃ m, m = min k 1001 := ⟨_, rfl⟩
      have hm2 : m ≤ 1001 := by rw [hm]; exact Nat.min_le_right _ _
      have hwm : wrap64 (m : Int) = (m : Int) := wrap64_in (by omega) (by omega)
      have hwi : IntKind.i64.wrap (m : Int) = (m : Int) := wrapI_id (by omega) (by omega)
      have hbec : becD ⟨fl, dy, va, st, ho0, nx⟩ s k = ⟨fl, dy, va, s, 0, k⟩ := by unfold becD; simp [h5, hm]
      have HC : Hid (C = ⟨fl, dy, va, s, 0, k⟩) := Lib.hid (by rw [HR.out.2, hbec])
      have HW9 : Hid (∀ W, Calls Try.prog 83 #[.agg #[.int .i64 fl, .int .i64 dy, .int .i64 va, .int .i64 s, .int .i64 0, .int .u64 (k : Nat)], .int .u64 (own : Nat)] W fun e w' => e = .returned (.bool r) ∧ Fr (fun _ => False) W w') := Lib.hid (fun W => by
        have h55 := HW.out W
        rw [wB_bec _ own s k (.inr h5), ← HR.out.1, hbec] at h55
        exact h55)
      have hmin := fun ts t W => HMIN.out ts t W
      simp only [← hm] at hmin
      have HH := Lib.hid h5
      clear h5 hm hbec hm2 HW h9
      go_enter Try.func51, Try.ntmps51
      go_upto_region 1 with fail
      rw [← HQ.out]
      clear HQ
      go_upto_region 2 with fail
      rw [← HQ3.out]
      clear HQ3 hf0 hf1 hf2 hc0 hc1 hc2
      have hq0 : W3.cell? ⟨w.heap.size, 5, none⟩ = some (.int .u64 0) := cp_cell HB3.out.2.1 5 rfl
      have hqf := HB3.out.2.1.frozen 5
      obtain ⟨W4, hW4⟩ : ∃ W, W = W3.setCell ⟨w.heap.size, 5, none⟩ (.int .u64 (k : Nat)) := ⟨_, rfl⟩
      have HB4 : Hid (Fr (fun b => b = w.heap.size) W3 W4 ∧ Blk W4 w.heap.size 49 #[.int .i64 fl, .int .i64 dy, .int .i64 va, .int .i64 s, .int .i64 0, .int .u64 (k : Nat)] ∧ Blk W4 (w.heap.size + 1) 49 #[.int .i64 0, .int .i64 0, .int .i64 0, .int .i64 0, .int .i64 0, .int .u64 0]) := Lib.hid (by
        have f : Fr (fun b => b = w.heap.size) W3 W4 := by rw [hW4]; exact (Fr.refl (fun b => b = w.heap.size) W3).setCell (p := ⟨w.heap.size, 5, none⟩) (.inl rfl) _
        refine ⟨f, by rw [hW4]; exact HB3.out.2.1.set_ 5 _, HB3.out.2.2.keep f (fun q => by have h6 : w.heap.size + 1 = w.heap.size := q; omega)⟩)
      have HF4 := Lib.hid (HF3.out.trans HB4.out.1 (fun b hb q => by have h6 : b = w.heap.size := q; omega))
      have HQ4 := Lib.hid hW4
      clear hW4
      go_upto_region 8 with fail
      rw [← HQ4.out]
      clear HQ4 hq0 hqf hmin
      refine wp_region_held_drew (S := fun w' => Fr (fun b => b = w.heap.size + 1) W4 w') (by kernel_rfl) ((Fr.refl (fun b => b = w.heap.size + 1) W4).drew) (fun hS0 => ?_)
      refine anyH_take 0 28 (.agg #[.int .i64 fl, .int .i64 dy, .int .i64 va, .int .i64 s, .int .i64 0, .int .u64 (k : Nat)]) rfl rfl (by kernel_rfl) (by kernel_rfl) (by kernel_rfl) (fun _ _ _ h => h) (yieldsIf_load_mid rfl 49 (.tmp 4) rfl w.heap.size 0 rfl (#[.int .i64 fl, .int .i64 dy, .int .i64 va, .int .i64 s, .int .i64 0, .int .u64 (k : Nat)]).toList _ (fun w'' hS => blk_range (HB4.out.2.1.keep hS (fun q => by have h6 : w.heap.size = w.heap.size + 1 := q; omega))) Try.underlying49 rfl (info_size infoCp)) hS0 ?_
      (simp only [List.setIfInBounds_toArray, List.set_cons_zero, List.set_cons_succ])
      refine anyH_take 1 29 (.agg #[.int .i64 fl, .int .i64 dy, .int .i64 va, .int .i64 s, .int .i64 0, .int .u64 (k : Nat)]) rfl rfl (by kernel_rfl) (by kernel_rfl) (by kernel_rfl) (fun _ _ _ h => h) (yieldsIf_load_mid rfl 49 (.tmp 4) rfl w.heap.size 0 rfl (#[.int .i64 fl, .int .i64 dy, .int .i64 va, .int .i64 s, .int .i64 0, .int .u64 (k : Nat)]).toList _ (fun w'' hS => blk_range (HB4.out.2.1.keep hS (fun q => by have h6 : w.heap.size = w.heap.size + 1 := q; omega))) Try.underlying49 rfl (info_size infoCp)) hS0 ?_
      (simp only [List.setIfInBounds_toArray, List.set_cons_zero, List.set_cons_succ])
      refine anyH_take 2 30 (.int .u64 (own : Nat)) rfl rfl (by kernel_rfl) (by kernel_rfl) (by kernel_rfl) (fun _ _ _ h => h) (.inl ⟨by rfl, fun w'' hS => by go_simp⟩) hS0 ?_
      (simp only [List.setIfInBounds_toArray, List.set_cons_zero, List.set_cons_succ])
      have hS1 := (Fr.refl (fun _ => False) W4).drew
      refine anyH_enter 3 31 (f := 83) (args := #[.agg #[.int .i64 fl, .int .i64 dy, .int .i64 va, .int .i64 s, .int .i64 0, .int .u64 (k : Nat)], .int .u64 (own : Nat)]) (by kernel_rfl) rfl rfl (by rfl) (by go_simp) ?_
      refine (HW9.out _).mono ?_
      rintro e w8 ⟨rfl, f8⟩
      refine ⟨_, rfl, hS0.trans f8 (fun _ _ q => q.elim), ?_⟩
      (simp only [List.setIfInBounds_toArray, List.set_cons_zero, List.set_cons_succ])
      have hS8 := hS1.trans f8 (fun _ _ q => q)
      have hbz := HB4.out.2.2.keep hS8 (fun q => q)
      obtain ⟨W9, hW9⟩ : ∃ W, W = w8.setCells (w.heap.size + 1) 0 (#[.int .i64 fl, .int .i64 dy, .int .i64 va, .int .i64 s, .int .i64 0, .int .u64 (k : Nat)]).toList := ⟨_, rfl⟩
      have hS7 := HF4.out.trans hS8 (fun _ _ q => q)
      have hx7 := fr_cells (F := fun _ => False) (a := w) (b := w.heap.size + 1) (.inr (Nat.le_succ _)) (#[.int .i64 fl, .int .i64 dy, .int .i64 va, .int .i64 s, .int .i64 0, .int .u64 (k : Nat)] : Array Value).toList 0 w8 hS7
      have hy7 := (Fr.refl (fun b => b = w.heap.size + 1) W4).trans hS8 (fun _ _ q => q.elim)
      have hx8 := fr_cells (F := fun b => b = w.heap.size + 1) (a := W4) (b := w.heap.size + 1) (.inl rfl) (#[.int .i64 fl, .int .i64 dy, .int .i64 va, .int .i64 s, .int .i64 0, .int .u64 (k : Nat)] : Array Value).toList 0 w8 hy7
      have HBZ : Hid (Blk W9 (w.heap.size + 1) 49 #[.int .i64 fl, .int .i64 dy, .int .i64 va, .int .i64 s, .int .i64 0, .int .u64 (k : Nat)] ∧ Fr (fun _ => False) w W9) := Lib.hid (by rw [hW9]; exact ⟨blk_row hbz rfl, hx7⟩)
      have hS9 : Fr (fun b => b = w.heap.size + 1) W4 W9 := by rw [hW9]; exact hx8
      refine anyH_skip 4 W9 (by kernel_rfl) rfl rfl (by rfl) (by rw [hW9]; exact run_store_mid 49 (.tmp 8) (.tmp 28) rfl (w.heap.size + 1) 0 (#[.int .i64 fl, .int .i64 dy, .int .i64 va, .int .i64 s, .int .i64 0, .int .u64 (k : Nat)]) rfl rfl (blk_there hbz (Nat.le_refl 6)) (info_size infoCp) (by simp [Value.oneCell'])) (hS9) ?_
      refine anyH_value 5 9 (.bool r) W9 (by kernel_rfl) rfl rfl (by rfl) (by go_simp) (hS9) ?_
      (simp only [List.setIfInBounds_toArray, List.set_cons_zero, List.set_cons_succ])
      refine wpAnyH_done (by kernel_rfl) ?_ _
      clear hbz hS0 hS1 hS7 hS8 f8 hW9 hS9 hx7 hx8 hy7
      go_wp2_with fail
      refine bodyPost_ret (results_cp rfl _ _ (w.heap.size + 1) (#[.int .i64 fl, .int .i64 dy, .int .i64 va, .int .i64 s, .int .i64 0, .int .u64 (k : Nat)]) rfl HBZ.out.1 rfl) rfl ?_
      exact ⟨by rw [HC.out]; rfl, HBZ.out.2⟩
    · have b9 : (s == 9) = false := by rw [beq_eq_false_iff_ne]; exact h9
      have b5 : (s == 5) = false := by rw [beq_eq_false_iff_ne]; exact h5
      have HC : Hid (C = ⟨fl, dy, va, s, 0, 0⟩) := Lib.hid (by rw [HR.out.2]; unfold becD; simp [h9, h5])
      have hr9 : r = decide (k = 0) := by rw [HR.out.1]; unfold withB; rw [if_neg h9, if_neg h5]
      have HX7 := Lib.hid (fr_cells (F := fun _ => False) (a := w) (b := w.heap.size + 1) (.inr (Nat.le_succ _)) (#[.int .i64 fl, .int .i64 dy, .int .i64 va, .int .i64 s, .int .i64 0, .int .u64 0] : Array Value).toList 0 W3 HF3.out)
      clear h9 h5 HW
      by_cases gk : k = 0
      · have bk : ((k : Int) == 0) = true := by rw [beq_iff_eq]; omega
        obtain rfl : r = true := by rw [hr9]; exact decide_eq_true gk
        clear hr9 gk
        go_enter Try.func51, Try.ntmps51
        go_upto_region 1 with fail
        rw [← HQ.out]
        clear HQ
        go_upto_region 2 with fail
        rw [← HQ3.out]
        clear HQ3 hf0 hf1 hf2 hc0 hc1 hc2
        go_wp2_with (first
          | (refine wpList_load_mid rfl 49 (.tmp 4) rfl w.heap.size 0 rfl (#[.int .i64 fl, .int .i64 dy, .int .i64 va, .int .i64 s, .int .i64 0, .int .u64 0]).toList _ (blk_range HB3.out.2.1) Try.underlying49 rfl (info_size infoCp) ?_)
          | (refine wpList_store_mid rfl 49 (.tmp 8) (.tmp 15) rfl (w.heap.size + 1) 0 (#[.int .i64 fl, .int .i64 dy, .int .i64 va, .int .i64 s, .int .i64 0, .int .u64 0]) rfl rfl (blk_there HB3.out.2.2 (Nat.le_refl 6)) (info_size infoCp) (by simp [Value.oneCell']) ?_))
        refine bodyPost_ret (results_cp rfl _ _ (w.heap.size + 1) (#[.int .i64 fl, .int .i64 dy, .int .i64 va, .int .i64 s, .int .i64 0, .int .u64 0]) rfl (blk_row HB3.out.2.2 rfl) rfl) rfl ?_
        exact ⟨by rw [HC.out]; rfl, HX7.out⟩
      · have bk : ((k : Int) == 0) = false := by rw [beq_eq_false_iff_ne]; omega
        obtain rfl : r = false := by rw [hr9]; exact decide_eq_false gk
        clear hr9 gk
        go_enter Try.func51, Try.ntmps51
        go_upto_region 1 with fail
        rw [← HQ.out]
        clear HQ
        go_upto_region 2 with fail
        rw [← HQ3.out]
        clear HQ3 hf0 hf1 hf2 hc0 hc1 hc2
        go_wp2_with (first
          | (refine wpList_load_mid rfl 49 (.tmp 4) rfl w.heap.size 0 rfl (#[.int .i64 fl, .int .i64 dy, .int .i64 va, .int .i64 s, .int .i64 0, .int .u64 0]).toList _ (blk_range HB3.out.2.1) Try.underlying49 rfl (info_size infoCp) ?_)
          | (refine wpList_store_mid rfl 49 (.tmp 8) (.tmp 15) rfl (w.heap.size + 1) 0 (#[.int .i64 fl, .int .i64 dy, .int .i64 va, .int .i64 s, .int .i64 0, .int .u64 0]) rfl rfl (blk_there HB3.out.2.2 (Nat.le_refl 6)) (info_size infoCp) (by simp [Value.oneCell']) ?_))
        refine bodyPost_ret (results_cp rfl _ _ (w.heap.size + 1) (#[.int .i64 fl, .int .i64 dy, .int .i64 va, .int .i64 s, .int .i64 0, .int .u64 0]) rfl (blk_row HB3.out.2.2 rfl) rfl) rfl ?_
        exact ⟨by rw [HC.out]; rfl, HX7.out⟩
end Go.Proofs.Ytmopkfjnjbimnaa
