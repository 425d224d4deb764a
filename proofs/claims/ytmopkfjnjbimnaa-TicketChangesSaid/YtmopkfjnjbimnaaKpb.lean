/- ticket's mayDay, mayOut, another, mayWith, mayChain, mayCounts, has: what they answer. -/
import Derived.Test.YtmopkfjnjbimnaaKpa
namespace Go.Proofs.Ytmopkfjnjbimnaa
open Go.RowKit

theorem wrapU_pos {z : Int} (h0 : 0 ≤ z) (h1 : z ≤ 9223372036854775807) : IntKind.u64.wrap z = z := by
  simp [IntKind.wrap, IntKind.signed, IntKind.bits]
  omega
theorem wrap64_in {z : Int} (h0 : -9223372036854775808 ≤ z) (h1 : z ≤ 9223372036854775807) : wrap64 z = z := by
  unfold wrap64
  omega
theorem pday_any (n : Int) (w : World) : Calls Try.prog 40 #[.int .i64 n] w fun e w' => e = .returned (.bool (dayB n)) ∧ w' = w := by
  by_cases g0 : n ≥ 0
  · by_cases g1 : n ≤ 1000000
    · rw [show dayB n = true from decide_eq_true ⟨g0, g1⟩]
      go_enter Try.func40, Try.ntmps40
      go_wp2_with fail
      go_ret
      exact ⟨rfl, rfl⟩
    · rw [show dayB n = false from decide_eq_false (fun q => g1 q.2)]
      go_enter Try.func40, Try.ntmps40
      go_wp2_with fail
      go_ret
      exact ⟨rfl, rfl⟩
  · rw [show dayB n = false from decide_eq_false (fun q => g0 q.1)]
    go_enter Try.func40, Try.ntmps40
    go_wp2_with fail
    go_ret
    exact ⟨rfl, rfl⟩
theorem pout_any (n : Int) (w : World) : Calls Try.prog 81 #[.int .i64 n] w fun e w' => e = .returned (.bool (someB n)) ∧ w' = w := by
  by_cases g0 : n ≥ 0
  · have H := Lib.hid (fmay_any n w)
    rw [show mayF n = someB n from by unfold mayF someB; rw [decide_eq_decide]; omega] at H
    go_enter Try.func81, Try.ntmps81
    go_wp2_with fail
    refine H.out.mono ?_
    rintro e w1 ⟨rfl, rfl⟩
    go_wp2_with fail
    go_ret
    exact ⟨rfl, rfl⟩
  · rw [show someB n = false from decide_eq_false (fun q => g0 q.1)]
    go_enter Try.func81, Try.ntmps81
    go_wp2_with fail
    go_ret
    exact ⟨rfl, rfl⟩
theorem pano_any (n k : Nat) (hn : u64B n) (w : World) : Calls Try.prog 80 #[.int .u64 (n : Nat), .int .u64 (k : Nat)] w fun e w' => e = .returned (.bool (numB n && decide (n ≠ k))) ∧ w' = w := by
  have H := Lib.hid (ncheck_any n hn w)
  obtain ⟨c, hc⟩ : ∃ c, c = chkE n := ⟨_, rfl⟩
  rw [← hc] at H
  unfold numB
  rw [← hc]
  clear hc
  by_cases g0 : c = 0
  · have b0 : ((c : Int) == 0) = true := by rw [beq_iff_eq]; omega
    by_cases g1 : n = k
    · have b1 : ((n : Int) != (k : Int)) = false := by rw [bne_eq_false_iff_eq]; omega
      rw [show (decide (c = 0) && decide (n ≠ k)) = false from by simp [g1]]
      clear g0 g1
      go_enter Try.func80, Try.ntmps80
      go_wp2_with fail
      refine H.out.mono ?_
      rintro e w1 ⟨rfl, rfl⟩
      go_wp2_with fail
      go_ret
      exact ⟨rfl, rfl⟩
    · have b1 : ((n : Int) != (k : Int)) = true := by rw [bne_iff_ne]; omega
      rw [show (decide (c = 0) && decide (n ≠ k)) = true from by simp [g0, g1]]
      clear g0 g1
      go_enter Try.func80, Try.ntmps80
      go_wp2_with fail
      refine H.out.mono ?_
      rintro e w1 ⟨rfl, rfl⟩
      go_wp2_with fail
      go_ret
      exact ⟨rfl, rfl⟩
  · have b0 : ((c : Int) == 0) = false := by rw [beq_eq_false_iff_ne]; omega
    rw [show (decide (c = 0) && decide (n ≠ k)) = false from by simp [g0]]
    clear g0
    go_enter Try.func80, Try.ntmps80
    go_wp2_with fail
    refine H.out.mono ?_
    rintro e w1 ⟨rfl, rfl⟩
    go_wp2_with fail
    go_ret
    exact ⟨rfl, rfl⟩
/-- The numbers that a coupon has with its status. -/
def wB (own : Nat) (c : CpD) : Bool :=
  if c.st = 9 then decide (101 ≤ c.ho) && decide (c.ho ≤ 1000) && decide (c.ho ≠ carN own + 1) && decide (c.nx = 0) else if c.st = 5 then decide (c.ho = 0) && (numB c.nx && decide (c.nx ≠ own)) else decide (c.ho = 0) && decide (c.nx = 0)
theorem car_lt (n : Nat) : carN n ≤ 999 := by
  by_cases h : chkE n = 0
  · exact (mkN_of h).2.1
  · unfold carN
    rw [if_neg h]
    omega
theorem cpB_w (own : Nat) (c : CpD) : cpB own c = (decide (1 ≤ c.fl) && decide (c.fl ≤ 9999) && dayB c.dy && someB c.va && mayS c.st && wB own c) := by
  obtain ⟨fl, dy, va, st, ho, nx⟩ := c
  unfold cpB wB withB
  simp only
  generalize dayB dy = D
  generalize someB va = S
  generalize numB nx = N
  by_cases h9 : st = 9
  · subst h9
    rw [show mayS 9 = true from rfl]
    by_cases h0 : 0 ≤ ho
    · obtain ⟨k, rfl⟩ : ∃ k : Nat, ho = k := ⟨ho.toNat, by omega⟩
      cases D <;> cases S <;> rw [Bool.eq_iff_iff] <;> simp <;> omega
    · rw [Bool.eq_iff_iff]
      cases D <;> cases S <;> simp <;> omega
  · by_cases h5 : st = 5
    · subst h5
      rw [show mayS 5 = true from rfl]
      cases D <;> cases S <;> cases N <;> rw [Bool.eq_iff_iff] <;> simp <;> omega
    · generalize mayS st = M
      cases D <;> cases S <;> cases M <;> rw [Bool.eq_iff_iff] <;> simp [h9, h5] <;> omega
set_option maxRecDepth 100000 in
set_option maxHeartbeats 4000000 in
theorem pwith_any (c : CpD) (hc : CpOk c) (own : Nat) (ho : u64B own) (w : World) : Calls Try.prog 83 #[.agg (cpC c).toArray, .int .u64 (own : Nat)] w fun e w' => e = .returned (.bool (wB own c)) ∧ Fr (fun _ => False) w w' := by
  obtain ⟨r, hr⟩ : ∃ r, r = wB own c := ⟨_, rfl⟩
  rw [← hr]
  have hnx : u64B c.nx := hc.nx
  obtain ⟨k, hk⟩ : ∃ k, k = carN own := ⟨_, rfl⟩
  have hkb : k ≤ 999 := by rw [hk]; exact car_lt own
  have HCA := Lib.hid (fun W => ncar_any own ho W)
  have HAN := Lib.hid (fun W => pano_any c.nx own hnx W)
  rw [← hk] at HCA
  unfold wB at hr
  rw [← hk] at hr
  have HR := Lib.hid hr
  obtain ⟨fl, dy, va, st, ho2, nx⟩ := c
  simp only at HR HAN
  obtain ⟨W0, hW0⟩ : ∃ W, W = w.alloc (.cells #[.int .i64 fl, .int .i64 dy, .int .i64 va, .int .i64 st, .int .i64 ho2, .int .u64 (nx : Nat)] 49) := ⟨_, rfl⟩
  have HB : Hid (Fr (fun _ => False) w W0 ∧ Blk W0 w.heap.size 49 #[.int .i64 fl, .int .i64 dy, .int .i64 va, .int .i64 st, .int .i64 ho2, .int .u64 (nx : Nat)]) := Lib.hid (by rw [hW0]; exact ⟨(Fr.refl _ w).alloc _, Blk.new w _ _⟩)
  have HQ := Lib.hid hW0
  have hx3 : W0.cell? ⟨w.heap.size, 3, none⟩ = some (.int .i64 st) := cp_cell HB.out.2 3 rfl
  have hx4 : W0.cell? ⟨w.heap.size, 4, none⟩ = some (.int .i64 ho2) := cp_cell HB.out.2 4 rfl
  have hx5 : W0.cell? ⟨w.heap.size, 5, none⟩ = some (.int .u64 (nx : Nat)) := cp_cell HB.out.2 5 rfl
  have HC4 : Hid (∀ W, Fr (fun _ => False) W0 W → W.cell? ⟨w.heap.size, 4, none⟩ = some (.int .i64 ho2)) := Lib.hid (fun W f => cp_cell (HB.out.2.keep f (fun q => q)) 4 rfl)
  have HC5 : Hid (∀ W, Fr (fun _ => False) W0 W → W.cell? ⟨w.heap.size, 5, none⟩ = some (.int .u64 (nx : Nat))) := Lib.hid (fun W f => cp_cell (HB.out.2.keep f (fun q => q)) 5 rfl)
  have hkw : IntKind.i64.wrap ((k : Int) + 1) = (k : Int) + 1 := wrapI_id (by omega) (by omega)
  have HKW := Lib.hid hkw
  clear hr hk hW0 hc hkw
  show Calls Try.prog 83 #[.agg #[.int .i64 fl, .int .i64 dy, .int .i64 va, .int .i64 st, .int .i64 ho2, .int .u64 (nx : Nat)], .int .u64 (own : Nat)] w _
  by_cases h9 : st = 9
  · have b9 : (st == 9) = true := by rw [beq_iff_eq]; exact h9
    have H9 := Lib.hid h9
    clear h9
    go_enter Try.func83, Try.ntmps83
    go_upto_region 1 with fail
    rw [← HQ.out]
    clear HQ
    by_cases g0 : 101 ≤ ho2
    · have Q0 : Hid (ho2 ≥ 101) := Lib.hid (by omega)
      by_cases g1 : ho2 ≤ 1000
      · have Q1 : Hid (ho2 ≤ 1000) := Lib.hid g1
        by_cases g2 : ho2 ≠ (k : Int) + 1
        · have Q2 : Hid ((ho2 != (k : Int) + 1) = true) := Lib.hid (by rw [bne_iff_ne]; exact g2)
          by_cases g3 : nx = 0
          · have Q3 : Hid (((nx : Int) == 0) = true) := Lib.hid (by rw [beq_iff_eq]; omega)
            obtain rfl : r = true := by rw [HR.out]; simp [H9.out, g0, g1, g2, g3]
            clear g0 g1 g2 g3
            go_wp2_with fail
            refine wp_region_held_drew (S := fun w' => Fr (fun _ => False) W0 w') (by kernel_rfl) ((Fr.refl _ W0).drew) (fun hS0 => ?_)
            refine anyH_take 0 9 (.pointer (some ⟨w.heap.size, 4, none⟩)) rfl rfl (by kernel_rfl) (by kernel_rfl) (by kernel_rfl) (fun _ _ _ h => h) (.inl ⟨by rfl, fun w'' hS => by go_simp⟩) hS0 ?_
            (simp only [List.setIfInBounds_toArray, List.set_cons_zero, List.set_cons_succ])
            refine anyH_take 1 10 (.int .i64 ho2) rfl rfl (by kernel_rfl) (by kernel_rfl) (by kernel_rfl) (fun _ _ _ h => h) (.inl ⟨by rfl, fun w'' hS => by have q0 := HC4.out _ hS; go_simp⟩) hS0 ?_
            (simp only [List.setIfInBounds_toArray, List.set_cons_zero, List.set_cons_succ])
            refine anyH_take 2 11 (.bool true) rfl rfl (by kernel_rfl) (by kernel_rfl) (by kernel_rfl) (fun _ _ _ h => h) (.inl ⟨by rfl, fun w'' hS => by have q0 := Q0.out; go_simp⟩) hS0 ?_
            (simp only [List.setIfInBounds_toArray, List.set_cons_zero, List.set_cons_succ])
            refine anyH_take 3 12 (.bool true) rfl rfl (by kernel_rfl) (by kernel_rfl) (by kernel_rfl) (fun _ _ _ h => h) (.inl ⟨by rfl, fun w'' hS => by go_simp⟩) hS0 ?_
            (simp only [List.setIfInBounds_toArray, List.set_cons_zero, List.set_cons_succ])
            refine anyH_take 4 13 (.pointer (some ⟨w.heap.size, 4, none⟩)) rfl rfl (by kernel_rfl) (by kernel_rfl) (by kernel_rfl) (fun _ _ _ h => h) (.inl ⟨by rfl, fun w'' hS => by go_simp⟩) hS0 ?_
            (simp only [List.setIfInBounds_toArray, List.set_cons_zero, List.set_cons_succ])
            refine anyH_take 5 14 (.int .i64 ho2) rfl rfl (by kernel_rfl) (by kernel_rfl) (by kernel_rfl) (fun _ _ _ h => h) (.inl ⟨by rfl, fun w'' hS => by have q0 := HC4.out _ hS; go_simp⟩) hS0 ?_
            (simp only [List.setIfInBounds_toArray, List.set_cons_zero, List.set_cons_succ])
            refine anyH_take 6 15 (.bool true) rfl rfl (by kernel_rfl) (by kernel_rfl) (by kernel_rfl) (fun _ _ _ h => h) (.inl ⟨by rfl, fun w'' hS => by have q0 := Q1.out; go_simp⟩) hS0 ?_
            (simp only [List.setIfInBounds_toArray, List.set_cons_zero, List.set_cons_succ])
            refine anyH_take 7 16 (.bool true) rfl rfl (by kernel_rfl) (by kernel_rfl) (by kernel_rfl) (fun _ _ _ h => h) (.inl ⟨by rfl, fun w'' hS => by go_simp⟩) hS0 ?_
            (simp only [List.setIfInBounds_toArray, List.set_cons_zero, List.set_cons_succ])
            refine anyH_take 8 17 (.bool true) rfl rfl (by kernel_rfl) (by kernel_rfl) (by kernel_rfl) (fun _ _ _ h => h) (.inl ⟨by rfl, fun w'' hS => by go_simp⟩) hS0 ?_
            (simp only [List.setIfInBounds_toArray, List.set_cons_zero, List.set_cons_succ])
            refine anyH_take 9 18 (.pointer (some ⟨w.heap.size, 4, none⟩)) rfl rfl (by kernel_rfl) (by kernel_rfl) (by kernel_rfl) (fun _ _ _ h => h) (.inl ⟨by rfl, fun w'' hS => by go_simp⟩) hS0 ?_
            (simp only [List.setIfInBounds_toArray, List.set_cons_zero, List.set_cons_succ])
            refine anyH_take 10 19 (.int .i64 ho2) rfl rfl (by kernel_rfl) (by kernel_rfl) (by kernel_rfl) (fun _ _ _ h => h) (.inl ⟨by rfl, fun w'' hS => by have q0 := HC4.out _ hS; go_simp⟩) hS0 ?_
            (simp only [List.setIfInBounds_toArray, List.set_cons_zero, List.set_cons_succ])
            refine anyH_take 11 20 (.int .u64 (own : Nat)) rfl rfl (by kernel_rfl) (by kernel_rfl) (by kernel_rfl) (fun _ _ _ h => h) (.inl ⟨by rfl, fun w'' hS => by go_simp⟩) hS0 ?_
            (simp only [List.setIfInBounds_toArray, List.set_cons_zero, List.set_cons_succ])
            refine anyH_one 12 21 (.int .i64 (k : Nat)) (by kernel_rfl) (tame_call 21 rfl rfl (by rfl) (fun w'' hS => by go_simp) (fun w'' hS => ((HCA.out w'').mono fun e w3 he => ⟨he.1, he.2 ▸ hS⟩))) hS0 (fun wq0 hS0 => ?_)
            (simp only [List.setIfInBounds_toArray, List.set_cons_zero, List.set_cons_succ])
            refine anyH_take 13 22 (.int .i64 ((k : Int) + 1)) rfl rfl (by kernel_rfl) (by kernel_rfl) (by kernel_rfl) (fun _ _ _ h => h) (.inl ⟨by rfl, fun w'' hS => by have q0 := HKW.out; go_simp⟩) hS0 ?_
            (simp only [List.setIfInBounds_toArray, List.set_cons_zero, List.set_cons_succ])
            refine anyH_take 14 23 (.bool true) rfl rfl (by kernel_rfl) (by kernel_rfl) (by kernel_rfl) (fun _ _ _ h => h) (.inl ⟨by rfl, fun w'' hS => by have q0 := Q2.out; go_simp⟩) hS0 ?_
            (simp only [List.setIfInBounds_toArray, List.set_cons_zero, List.set_cons_succ])
            refine anyH_take 15 24 (.bool true) rfl rfl (by kernel_rfl) (by kernel_rfl) (by kernel_rfl) (fun _ _ _ h => h) (.inl ⟨by rfl, fun w'' hS => by go_simp⟩) hS0 ?_
            (simp only [List.setIfInBounds_toArray, List.set_cons_zero, List.set_cons_succ])
            refine anyH_take 16 25 (.bool true) rfl rfl (by kernel_rfl) (by kernel_rfl) (by kernel_rfl) (fun _ _ _ h => h) (.inl ⟨by rfl, fun w'' hS => by go_simp⟩) hS0 ?_
            (simp only [List.setIfInBounds_toArray, List.set_cons_zero, List.set_cons_succ])
            refine anyH_take 17 26 (.pointer (some ⟨w.heap.size, 5, none⟩)) rfl rfl (by kernel_rfl) (by kernel_rfl) (by kernel_rfl) (fun _ _ _ h => h) (.inl ⟨by rfl, fun w'' hS => by go_simp⟩) hS0 ?_
            (simp only [List.setIfInBounds_toArray, List.set_cons_zero, List.set_cons_succ])
            refine anyH_take 18 27 (.int .u64 (nx : Nat)) rfl rfl (by kernel_rfl) (by kernel_rfl) (by kernel_rfl) (fun _ _ _ h => h) (.inl ⟨by rfl, fun w'' hS => by have q0 := HC5.out _ hS; go_simp⟩) hS0 ?_
            (simp only [List.setIfInBounds_toArray, List.set_cons_zero, List.set_cons_succ])
            refine anyH_take 19 28 (.bool true) rfl rfl (by kernel_rfl) (by kernel_rfl) (by kernel_rfl) (fun _ _ _ h => h) (.inl ⟨by rfl, fun w'' hS => by have q0 := Q3.out; go_simp⟩) hS0 ?_
            (simp only [List.setIfInBounds_toArray, List.set_cons_zero, List.set_cons_succ])
            refine anyH_take 20 29 (.bool true) rfl rfl (by kernel_rfl) (by kernel_rfl) (by kernel_rfl) (fun _ _ _ h => h) (.inl ⟨by rfl, fun w'' hS => by go_simp⟩) hS0 ?_
            (simp only [List.setIfInBounds_toArray, List.set_cons_zero, List.set_cons_succ])
            refine anyH_take 21 4 (.bool true) rfl rfl (by kernel_rfl) (by kernel_rfl) (by kernel_rfl) (fun _ _ _ h => h) (.inl ⟨by rfl, fun w'' hS => by go_simp⟩) hS0 ?_
            (simp only [List.setIfInBounds_toArray, List.set_cons_zero, List.set_cons_succ])
            refine wpAnyH_done (by kernel_rfl) ?_ _
            clear hx3
            have HF2 := Lib.hid hS0
            clear hS0
            go_wp2_with fail
            go_ret
            exact ⟨rfl, HB.out.1.trans HF2.out (fun _ _ q => q)⟩
          · have Q3 : Hid (((nx : Int) == 0) = false) := Lib.hid (by rw [beq_eq_false_iff_ne]; omega)
            obtain rfl : r = false := by rw [HR.out]; simp [H9.out, g3]
            clear g0 g1 g2 g3
            go_wp2_with fail
            refine wp_region_held_drew (S := fun w' => Fr (fun _ => False) W0 w') (by kernel_rfl) ((Fr.refl _ W0).drew) (fun hS0 => ?_)
            refine anyH_take 0 9 (.pointer (some ⟨w.heap.size, 4, none⟩)) rfl rfl (by kernel_rfl) (by kernel_rfl) (by kernel_rfl) (fun _ _ _ h => h) (.inl ⟨by rfl, fun w'' hS => by go_simp⟩) hS0 ?_
            (simp only [List.setIfInBounds_toArray, List.set_cons_zero, List.set_cons_succ])
            refine anyH_take 1 10 (.int .i64 ho2) rfl rfl (by kernel_rfl) (by kernel_rfl) (by kernel_rfl) (fun _ _ _ h => h) (.inl ⟨by rfl, fun w'' hS => by have q0 := HC4.out _ hS; go_simp⟩) hS0 ?_
            (simp only [List.setIfInBounds_toArray, List.set_cons_zero, List.set_cons_succ])
            refine anyH_take 2 11 (.bool true) rfl rfl (by kernel_rfl) (by kernel_rfl) (by kernel_rfl) (fun _ _ _ h => h) (.inl ⟨by rfl, fun w'' hS => by have q0 := Q0.out; go_simp⟩) hS0 ?_
            (simp only [List.setIfInBounds_toArray, List.set_cons_zero, List.set_cons_succ])
            refine anyH_take 3 12 (.bool true) rfl rfl (by kernel_rfl) (by kernel_rfl) (by kernel_rfl) (fun _ _ _ h => h) (.inl ⟨by rfl, fun w'' hS => by go_simp⟩) hS0 ?_
            (simp only [List.setIfInBounds_toArray, List.set_cons_zero, List.set_cons_succ])
            refine anyH_take 4 13 (.pointer (some ⟨w.heap.size, 4, none⟩)) rfl rfl (by kernel_rfl) (by kernel_rfl) (by kernel_rfl) (fun _ _ _ h => h) (.inl ⟨by rfl, fun w'' hS => by go_simp⟩) hS0 ?_
            (simp only [List.setIfInBounds_toArray, List.set_cons_zero, List.set_cons_succ])
            refine anyH_take 5 14 (.int .i64 ho2) rfl rfl (by kernel_rfl) (by kernel_rfl) (by kernel_rfl) (fun _ _ _ h => h) (.inl ⟨by rfl, fun w'' hS => by have q0 := HC4.out _ hS; go_simp⟩) hS0 ?_
            (simp only [List.setIfInBounds_toArray, List.set_cons_zero, List.set_cons_succ])
            refine anyH_take 6 15 (.bool true) rfl rfl (by kernel_rfl) (by kernel_rfl) (by kernel_rfl) (fun _ _ _ h => h) (.inl ⟨by rfl, fun w'' hS => by have q0 := Q1.out; go_simp⟩) hS0 ?_
            (simp only [List.setIfInBounds_toArray, List.set_cons_zero, List.set_cons_succ])
            refine anyH_take 7 16 (.bool true) rfl rfl (by kernel_rfl) (by kernel_rfl) (by kernel_rfl) (fun _ _ _ h => h) (.inl ⟨by rfl, fun w'' hS => by go_simp⟩) hS0 ?_
            (simp only [List.setIfInBounds_toArray, List.set_cons_zero, List.set_cons_succ])
            refine anyH_take 8 17 (.bool true) rfl rfl (by kernel_rfl) (by kernel_rfl) (by kernel_rfl) (fun _ _ _ h => h) (.inl ⟨by rfl, fun w'' hS => by go_simp⟩) hS0 ?_
            (simp only [List.setIfInBounds_toArray, List.set_cons_zero, List.set_cons_succ])
            refine anyH_take 9 18 (.pointer (some ⟨w.heap.size, 4, none⟩)) rfl rfl (by kernel_rfl) (by kernel_rfl) (by kernel_rfl) (fun _ _ _ h => h) (.inl ⟨by rfl, fun w'' hS => by go_simp⟩) hS0 ?_
            (simp only [List.setIfInBounds_toArray, List.set_cons_zero, List.set_cons_succ])
            refine anyH_take 10 19 (.int .i64 ho2) rfl rfl (by kernel_rfl) (by kernel_rfl) (by kernel_rfl) (fun _ _ _ h => h) (.inl ⟨by rfl, fun w'' hS => by have q0 := HC4.out _ hS; go_simp⟩) hS0 ?_
            (simp only [List.setIfInBounds_toArray, List.set_cons_zero, List.set_cons_succ])
            refine anyH_take 11 20 (.int .u64 (own : Nat)) rfl rfl (by kernel_rfl) (by kernel_rfl) (by kernel_rfl) (fun _ _ _ h => h) (.inl ⟨by rfl, fun w'' hS => by go_simp⟩) hS0 ?_
            (simp only [List.setIfInBounds_toArray, List.set_cons_zero, List.set_cons_succ])
            refine anyH_one 12 21 (.int .i64 (k : Nat)) (by kernel_rfl) (tame_call 21 rfl rfl (by rfl) (fun w'' hS => by go_simp) (fun w'' hS => ((HCA.out w'').mono fun e w3 he => ⟨he.1, he.2 ▸ hS⟩))) hS0 (fun wq0 hS0 => ?_)
            (simp only [List.setIfInBounds_toArray, List.set_cons_zero, List.set_cons_succ])
            refine anyH_take 13 22 (.int .i64 ((k : Int) + 1)) rfl rfl (by kernel_rfl) (by kernel_rfl) (by kernel_rfl) (fun _ _ _ h => h) (.inl ⟨by rfl, fun w'' hS => by have q0 := HKW.out; go_simp⟩) hS0 ?_
            (simp only [List.setIfInBounds_toArray, List.set_cons_zero, List.set_cons_succ])
            refine anyH_take 14 23 (.bool true) rfl rfl (by kernel_rfl) (by kernel_rfl) (by kernel_rfl) (fun _ _ _ h => h) (.inl ⟨by rfl, fun w'' hS => by have q0 := Q2.out; go_simp⟩) hS0 ?_
            (simp only [List.setIfInBounds_toArray, List.set_cons_zero, List.set_cons_succ])
            refine anyH_take 15 24 (.bool true) rfl rfl (by kernel_rfl) (by kernel_rfl) (by kernel_rfl) (fun _ _ _ h => h) (.inl ⟨by rfl, fun w'' hS => by go_simp⟩) hS0 ?_
            (simp only [List.setIfInBounds_toArray, List.set_cons_zero, List.set_cons_succ])
            refine anyH_take 16 25 (.bool true) rfl rfl (by kernel_rfl) (by kernel_rfl) (by kernel_rfl) (fun _ _ _ h => h) (.inl ⟨by rfl, fun w'' hS => by go_simp⟩) hS0 ?_
            (simp only [List.setIfInBounds_toArray, List.set_cons_zero, List.set_cons_succ])
            refine anyH_take 17 26 (.pointer (some ⟨w.heap.size, 5, none⟩)) rfl rfl (by kernel_rfl) (by kernel_rfl) (by kernel_rfl) (fun _ _ _ h => h) (.inl ⟨by rfl, fun w'' hS => by go_simp⟩) hS0 ?_
            (simp only [List.setIfInBounds_toArray, List.set_cons_zero, List.set_cons_succ])
            refine anyH_take 18 27 (.int .u64 (nx : Nat)) rfl rfl (by kernel_rfl) (by kernel_rfl) (by kernel_rfl) (fun _ _ _ h => h) (.inl ⟨by rfl, fun w'' hS => by have q0 := HC5.out _ hS; go_simp⟩) hS0 ?_
            (simp only [List.setIfInBounds_toArray, List.set_cons_zero, List.set_cons_succ])
            refine anyH_take 19 28 (.bool false) rfl rfl (by kernel_rfl) (by kernel_rfl) (by kernel_rfl) (fun _ _ _ h => h) (.inl ⟨by rfl, fun w'' hS => by have q0 := Q3.out; go_simp⟩) hS0 ?_
            (simp only [List.setIfInBounds_toArray, List.set_cons_zero, List.set_cons_succ])
            refine anyH_take 20 29 (.bool false) rfl rfl (by kernel_rfl) (by kernel_rfl) (by kernel_rfl) (fun _ _ _ h => h) (.inl ⟨by rfl, fun w'' hS => by go_simp⟩) hS0 ?_
            (simp only [List.setIfInBounds_toArray, List.set_cons_zero, List.set_cons_succ])
            refine anyH_take 21 4 (.bool false) rfl rfl (by kernel_rfl) (by kernel_rfl) (by kernel_rfl) (fun _ _ _ h => h) (.inl ⟨by rfl, fun w'' hS => by go_simp⟩) hS0 ?_
            (simp only [List.setIfInBounds_toArray, List.set_cons_zero, List.set_cons_succ])
            refine wpAnyH_done (by kernel_rfl) ?_ _
            clear hx3
            have HF2 := Lib.hid hS0
            clear hS0
            go_wp2_with fail
            go_ret
            exact ⟨rfl, HB.out.1.trans HF2.out (fun _ _ q => q)⟩
        · have Q2 : Hid ((ho2 != (k : Int) + 1) = false) := Lib.hid (by rw [bne_eq_false_iff_eq]; omega)
          obtain rfl : r = false := by rw [HR.out]; simp [H9.out, g2]
          clear g0 g1 g2
          go_wp2_with fail
          refine wp_region_held_drew (S := fun w' => Fr (fun _ => False) W0 w') (by kernel_rfl) ((Fr.refl _ W0).drew) (fun hS0 => ?_)
          refine anyH_take 0 9 (.pointer (some ⟨w.heap.size, 4, none⟩)) rfl rfl (by kernel_rfl) (by kernel_rfl) (by kernel_rfl) (fun _ _ _ h => h) (.inl ⟨by rfl, fun w'' hS => by go_simp⟩) hS0 ?_
          (simp only [List.setIfInBounds_toArray, List.set_cons_zero, List.set_cons_succ])
          refine anyH_take 1 10 (.int .i64 ho2) rfl rfl (by kernel_rfl) (by kernel_rfl) (by kernel_rfl) (fun _ _ _ h => h) (.inl ⟨by rfl, fun w'' hS => by have q0 := HC4.out _ hS; go_simp⟩) hS0 ?_
          (simp only [List.setIfInBounds_toArray, List.set_cons_zero, List.set_cons_succ])
          refine anyH_take 2 11 (.bool true) rfl rfl (by kernel_rfl) (by kernel_rfl) (by kernel_rfl) (fun _ _ _ h => h) (.inl ⟨by rfl, fun w'' hS => by have q0 := Q0.out; go_simp⟩) hS0 ?_
          (simp only [List.setIfInBounds_toArray, List.set_cons_zero, List.set_cons_succ])
          refine anyH_take 3 12 (.bool true) rfl rfl (by kernel_rfl) (by kernel_rfl) (by kernel_rfl) (fun _ _ _ h => h) (.inl ⟨by rfl, fun w'' hS => by go_simp⟩) hS0 ?_
          (simp only [List.setIfInBounds_toArray, List.set_cons_zero, List.set_cons_succ])
          refine anyH_take 4 13 (.pointer (some ⟨w.heap.size, 4, none⟩)) rfl rfl (by kernel_rfl) (by kernel_rfl) (by kernel_rfl) (fun _ _ _ h => h) (.inl ⟨by rfl, fun w'' hS => by go_simp⟩) hS0 ?_
          (simp only [List.setIfInBounds_toArray, List.set_cons_zero, List.set_cons_succ])
          refine anyH_take 5 14 (.int .i64 ho2) rfl rfl (by kernel_rfl) (by kernel_rfl) (by kernel_rfl) (fun _ _ _ h => h) (.inl ⟨by rfl, fun w'' hS => by have q0 := HC4.out _ hS; go_simp⟩) hS0 ?_
          (simp only [List.setIfInBounds_toArray, List.set_cons_zero, List.set_cons_succ])
          refine anyH_take 6 15 (.bool true) rfl rfl (by kernel_rfl) (by kernel_rfl) (by kernel_rfl) (fun _ _ _ h => h) (.inl ⟨by rfl, fun w'' hS => by have q0 := Q1.out; go_simp⟩) hS0 ?_
          (simp only [List.setIfInBounds_toArray, List.set_cons_zero, List.set_cons_succ])
          refine anyH_take 7 16 (.bool true) rfl rfl (by kernel_rfl) (by kernel_rfl) (by kernel_rfl) (fun _ _ _ h => h) (.inl ⟨by rfl, fun w'' hS => by go_simp⟩) hS0 ?_
          (simp only [List.setIfInBounds_toArray, List.set_cons_zero, List.set_cons_succ])
          refine anyH_take 8 17 (.bool true) rfl rfl (by kernel_rfl) (by kernel_rfl) (by kernel_rfl) (fun _ _ _ h => h) (.inl ⟨by rfl, fun w'' hS => by go_simp⟩) hS0 ?_
          (simp only [List.setIfInBounds_toArray, List.set_cons_zero, List.set_cons_succ])
          refine anyH_take 9 18 (.pointer (some ⟨w.heap.size, 4, none⟩)) rfl rfl (by kernel_rfl) (by kernel_rfl) (by kernel_rfl) (fun _ _ _ h => h) (.inl ⟨by rfl, fun w'' hS => by go_simp⟩) hS0 ?_
          (simp only [List.setIfInBounds_toArray, List.set_cons_zero, List.set_cons_succ])
          refine anyH_take 10 19 (.int .i64 ho2) rfl rfl (by kernel_rfl) (by kernel_rfl) (by kernel_rfl) (fun _ _ _ h => h) (.inl ⟨by rfl, fun w'' hS => by have q0 := HC4.out _ hS; go_simp⟩) hS0 ?_
          (simp only [List.setIfInBounds_toArray, List.set_cons_zero, List.set_cons_succ])
          refine anyH_take 11 20 (.int .u64 (own : Nat)) rfl rfl (by kernel_rfl) (by kernel_rfl) (by kernel_rfl) (fun _ _ _ h => h) (.inl ⟨by rfl, fun w'' hS => by go_simp⟩) hS0 ?_
          (simp only [List.setIfInBounds_toArray, List.set_cons_zero, List.set_cons_succ])
          refine anyH_one 12 21 (.int .i64 (k : Nat)) (by kernel_rfl) (tame_call 21 rfl rfl (by rfl) (fun w'' hS => by go_simp) (fun w'' hS => ((HCA.out w'').mono fun e w3 he => ⟨he.1, he.2 ▸ hS⟩))) hS0 (fun wq0 hS0 => ?_)
          (simp only [List.setIfInBounds_toArray, List.set_cons_zero, List.set_cons_succ])
          refine anyH_take 13 22 (.int .i64 ((k : Int) + 1)) rfl rfl (by kernel_rfl) (by kernel_rfl) (by kernel_rfl) (fun _ _ _ h => h) (.inl ⟨by rfl, fun w'' hS => by have q0 := HKW.out; go_simp⟩) hS0 ?_
          (simp only [List.setIfInBounds_toArray, List.set_cons_zero, List.set_cons_succ])
          refine anyH_take 14 23 (.bool false) rfl rfl (by kernel_rfl) (by kernel_rfl) (by kernel_rfl) (fun _ _ _ h => h) (.inl ⟨by rfl, fun w'' hS => by have q0 := Q2.out; go_simp⟩) hS0 ?_
          (simp only [List.setIfInBounds_toArray, List.set_cons_zero, List.set_cons_succ])
          refine anyH_take 15 24 (.bool false) rfl rfl (by kernel_rfl) (by kernel_rfl) (by kernel_rfl) (fun _ _ _ h => h) (.inl ⟨by rfl, fun w'' hS => by go_simp⟩) hS0 ?_
          (simp only [List.setIfInBounds_toArray, List.set_cons_zero, List.set_cons_succ])
          refine anyH_take 16 25 (.bool false) rfl rfl (by kernel_rfl) (by kernel_rfl) (by kernel_rfl) (fun _ _ _ h => h) (.inl ⟨by rfl, fun w'' hS => by go_simp⟩) hS0 ?_
          (simp only [List.setIfInBounds_toArray, List.set_cons_zero, List.set_cons_succ])
          refine anyH_take 17 26 undef rfl rfl (by kernel_rfl) (by kernel_rfl) (by kernel_rfl) (fun _ _ _ h => h) (.inr ⟨by rfl, rfl⟩) hS0 ?_
          (simp only [List.setIfInBounds_toArray, List.set_cons_zero, List.set_cons_succ])
          refine anyH_take 18 27 undef rfl rfl (by kernel_rfl) (by kernel_rfl) (by kernel_rfl) (fun _ _ _ h => h) (.inr ⟨by rfl, rfl⟩) hS0 ?_
          (simp only [List.setIfInBounds_toArray, List.set_cons_zero, List.set_cons_succ])
          refine anyH_take 19 28 undef rfl rfl (by kernel_rfl) (by kernel_rfl) (by kernel_rfl) (fun _ _ _ h => h) (.inr ⟨by rfl, rfl⟩) hS0 ?_
          (simp only [List.setIfInBounds_toArray, List.set_cons_zero, List.set_cons_succ])
          refine anyH_take 20 29 (.bool false) rfl rfl (by kernel_rfl) (by kernel_rfl) (by kernel_rfl) (fun _ _ _ h => h) (.inl ⟨by rfl, fun w'' hS => by go_simp⟩) hS0 ?_
          (simp only [List.setIfInBounds_toArray, List.set_cons_zero, List.set_cons_succ])
          refine anyH_take 21 4 (.bool false) rfl rfl (by kernel_rfl) (by kernel_rfl) (by kernel_rfl) (fun _ _ _ h => h) (.inl ⟨by rfl, fun w'' hS => by go_simp⟩) hS0 ?_
          (simp only [List.setIfInBounds_toArray, List.set_cons_zero, List.set_cons_succ])
          refine wpAnyH_done (by kernel_rfl) ?_ _
          clear hx3
          have HF2 := Lib.hid hS0
          clear hS0
          go_wp2_with fail
          go_ret
          exact ⟨rfl, HB.out.1.trans HF2.out (fun _ _ q => q)⟩
      · have Q1 : Hid (¬ ho2 ≤ 1000) := Lib.hid g1
        obtain rfl : r = false := by rw [HR.out]; simp [H9.out, g1]
        clear g0 g1
        go_wp2_with fail
        refine wp_region_held_drew (S := fun w' => Fr (fun _ => False) W0 w') (by kernel_rfl) ((Fr.refl _ W0).drew) (fun hS0 => ?_)
        refine anyH_take 0 9 (.pointer (some ⟨w.heap.size, 4, none⟩)) rfl rfl (by kernel_rfl) (by kernel_rfl) (by kernel_rfl) (fun _ _ _ h => h) (.inl ⟨by rfl, fun w'' hS => by go_simp⟩) hS0 ?_
        (simp only [List.setIfInBounds_toArray, List.set_cons_zero, List.set_cons_succ])
        refine anyH_take 1 10 (.int .i64 ho2) rfl rfl (by kernel_rfl) (by kernel_rfl) (by kernel_rfl) (fun _ _ _ h => h) (.inl ⟨by rfl, fun w'' hS => by have q0 := HC4.out _ hS; go_simp⟩) hS0 ?_
        (simp only [List.setIfInBounds_toArray, List.set_cons_zero, List.set_cons_succ])
        refine anyH_take 2 11 (.bool true) rfl rfl (by kernel_rfl) (by kernel_rfl) (by kernel_rfl) (fun _ _ _ h => h) (.inl ⟨by rfl, fun w'' hS => by have q0 := Q0.out; go_simp⟩) hS0 ?_
        (simp only [List.setIfInBounds_toArray, List.set_cons_zero, List.set_cons_succ])
        refine anyH_take 3 12 (.bool true) rfl rfl (by kernel_rfl) (by kernel_rfl) (by kernel_rfl) (fun _ _ _ h => h) (.inl ⟨by rfl, fun w'' hS => by go_simp⟩) hS0 ?_
        (simp only [List.setIfInBounds_toArray, List.set_cons_zero, List.set_cons_succ])
        refine anyH_take 4 13 (.pointer (some ⟨w.heap.size, 4, none⟩)) rfl rfl (by kernel_rfl) (by kernel_rfl) (by kernel_rfl) (fun _ _ _ h => h) (.inl ⟨by rfl, fun w'' hS => by go_simp⟩) hS0 ?_
        (simp only [List.setIfInBounds_toArray, List.set_cons_zero, List.set_cons_succ])
        refine anyH_take 5 14 (.int .i64 ho2) rfl rfl (by kernel_rfl) (by kernel_rfl) (by kernel_rfl) (fun _ _ _ h => h) (.inl ⟨by rfl, fun w'' hS => by have q0 := HC4.out _ hS; go_simp⟩) hS0 ?_
        (simp only [List.setIfInBounds_toArray, List.set_cons_zero, List.set_cons_succ])
        refine anyH_take 6 15 (.bool false) rfl rfl (by kernel_rfl) (by kernel_rfl) (by kernel_rfl) (fun _ _ _ h => h) (.inl ⟨by rfl, fun w'' hS => by have q0 := Q1.out; go_simp⟩) hS0 ?_
        (simp only [List.setIfInBounds_toArray, List.set_cons_zero, List.set_cons_succ])
        refine anyH_take 7 16 (.bool false) rfl rfl (by kernel_rfl) (by kernel_rfl) (by kernel_rfl) (fun _ _ _ h => h) (.inl ⟨by rfl, fun w'' hS => by go_simp⟩) hS0 ?_
        (simp only [List.setIfInBounds_toArray, List.set_cons_zero, List.set_cons_succ])
        refine anyH_take 8 17 (.bool false) rfl rfl (by kernel_rfl) (by kernel_rfl) (by kernel_rfl) (fun _ _ _ h => h) (.inl ⟨by rfl, fun w'' hS => by go_simp⟩) hS0 ?_
        (simp only [List.setIfInBounds_toArray, List.set_cons_zero, List.set_cons_succ])
        refine anyH_take 9 18 undef rfl rfl (by kernel_rfl) (by kernel_rfl) (by kernel_rfl) (fun _ _ _ h => h) (.inr ⟨by rfl, rfl⟩) hS0 ?_
        (simp only [List.setIfInBounds_toArray, List.set_cons_zero, List.set_cons_succ])
        refine anyH_take 10 19 undef rfl rfl (by kernel_rfl) (by kernel_rfl) (by kernel_rfl) (fun _ _ _ h => h) (.inr ⟨by rfl, rfl⟩) hS0 ?_
        (simp only [List.setIfInBounds_toArray, List.set_cons_zero, List.set_cons_succ])
        refine anyH_take 11 20 undef rfl rfl (by kernel_rfl) (by kernel_rfl) (by kernel_rfl) (fun _ _ _ h => h) (.inr ⟨by rfl, rfl⟩) hS0 ?_
        (simp only [List.setIfInBounds_toArray, List.set_cons_zero, List.set_cons_succ])
        refine anyH_take 12 21 undef rfl rfl (by kernel_rfl) (by kernel_rfl) (by kernel_rfl) (fun _ _ _ h => h) (.inr ⟨by rfl, rfl⟩) hS0 ?_
        (simp only [List.setIfInBounds_toArray, List.set_cons_zero, List.set_cons_succ])
        refine anyH_take 13 22 undef rfl rfl (by kernel_rfl) (by kernel_rfl) (by kernel_rfl) (fun _ _ _ h => h) (.inr ⟨by rfl, rfl⟩) hS0 ?_
        (simp only [List.setIfInBounds_toArray, List.set_cons_zero, List.set_cons_succ])
        refine anyH_take 14 23 undef rfl rfl (by kernel_rfl) (by kernel_rfl) (by kernel_rfl) (fun _ _ _ h => h) (.inr ⟨by rfl, rfl⟩) hS0 ?_
        (simp only [List.setIfInBounds_toArray, List.set_cons_zero, List.set_cons_succ])
        refine anyH_take 15 24 (.bool false) rfl rfl (by kernel_rfl) (by kernel_rfl) (by kernel_rfl) (fun _ _ _ h => h) (.inl ⟨by rfl, fun w'' hS => by go_simp⟩) hS0 ?_
        (simp only [List.setIfInBounds_toArray, List.set_cons_zero, List.set_cons_succ])
        refine anyH_take 16 25 (.bool false) rfl rfl (by kernel_rfl) (by kernel_rfl) (by kernel_rfl) (fun _ _ _ h => h) (.inl ⟨by rfl, fun w'' hS => by go_simp⟩) hS0 ?_
        (simp only [List.setIfInBounds_toArray, List.set_cons_zero, List.set_cons_succ])
        refine anyH_take 17 26 undef rfl rfl (by kernel_rfl) (by kernel_rfl) (by kernel_rfl) (fun _ _ _ h => h) (.inr ⟨by rfl, rfl⟩) hS0 ?_
        (simp only [List.setIfInBounds_toArray, List.set_cons_zero, List.set_cons_succ])
        refine anyH_take 18 27 undef rfl rfl (by kernel_rfl) (by kernel_rfl) (by kernel_rfl) (fun _ _ _ h => h) (.inr ⟨by rfl, rfl⟩) hS0 ?_
        (simp only [List.setIfInBounds_toArray, List.set_cons_zero, List.set_cons_succ])
        refine anyH_take 19 28 undef rfl rfl (by kernel_rfl) (by kernel_rfl) (by kernel_rfl) (fun _ _ _ h => h) (.inr ⟨by rfl, rfl⟩) hS0 ?_
        (simp only [List.setIfInBounds_toArray, List.set_cons_zero, List.set_cons_succ])
        refine anyH_take 20 29 (.bool false) rfl rfl (by kernel_rfl) (by kernel_rfl) (by kernel_rfl) (fun _ _ _ h => h) (.inl ⟨by rfl, fun w'' hS => by go_simp⟩) hS0 ?_
        (simp only [List.setIfInBounds_toArray, List.set_cons_zero, List.set_cons_succ])
        refine anyH_take 21 4 (.bool false) rfl rfl (by kernel_rfl) (by kernel_rfl) (by kernel_rfl) (fun _ _ _ h => h) (.inl ⟨by rfl, fun w'' hS => by go_simp⟩) hS0 ?_
        (simp only [List.setIfInBounds_toArray, List.set_cons_zero, List.set_cons_succ])
        refine wpAnyH_done (by kernel_rfl) ?_ _
        clear hx3
        have HF2 := Lib.hid hS0
        clear hS0
        go_wp2_with fail
        go_ret
        exact ⟨rfl, HB.out.1.trans HF2.out (fun _ _ q => q)⟩
    · have Q0 : Hid (¬ ho2 ≥ 101) := Lib.hid (by omega)
      obtain rfl : r = false := by rw [HR.out]; simp [H9.out, g0]
      clear g0
      go_wp2_with fail
      refine wp_region_held_drew (S := fun w' => Fr (fun _ => False) W0 w') (by kernel_rfl) ((Fr.refl _ W0).drew) (fun hS0 => ?_)
      refine anyH_take 0 9 (.pointer (some ⟨w.heap.size, 4, none⟩)) rfl rfl (by kernel_rfl) (by kernel_rfl) (by kernel_rfl) (fun _ _ _ h => h) (.inl ⟨by rfl, fun w'' hS => by go_simp⟩) hS0 ?_
      (simp only [List.setIfInBounds_toArray, List.set_cons_zero, List.set_cons_succ])
      refine anyH_take 1 10 (.int .i64 ho2) rfl rfl (by kernel_rfl) (by kernel_rfl) (by kernel_rfl) (fun _ _ _ h => h) (.inl ⟨by rfl, fun w'' hS => by have q0 := HC4.out _ hS; go_simp⟩) hS0 ?_
      (simp only [List.setIfInBounds_toArray, List.set_cons_zero, List.set_cons_succ])
      refine anyH_take 2 11 (.bool false) rfl rfl (by kernel_rfl) (by kernel_rfl) (by kernel_rfl) (fun _ _ _ h => h) (.inl ⟨by rfl, fun w'' hS => by have q0 := Q0.out; go_simp⟩) hS0 ?_
      (simp only [List.setIfInBounds_toArray, List.set_cons_zero, List.set_cons_succ])
      refine anyH_take 3 12 (.bool false) rfl rfl (by kernel_rfl) (by kernel_rfl) (by kernel_rfl) (fun _ _ _ h => h) (.inl ⟨by rfl, fun w'' hS => by go_simp⟩) hS0 ?_
      (simp only [List.setIfInBounds_toArray, List.set_cons_zero, List.set_cons_succ])
      refine anyH_take 4 13 undef rfl rfl (by kernel_rfl) (by kernel_rfl) (by kernel_rfl) (fun _ _ _ h => h) (.inr ⟨by rfl, rfl⟩) hS0 ?_
      (simp only [List.setIfInBounds_toArray, List.set_cons_zero, List.set_cons_succ])
      refine anyH_take 5 14 undef rfl rfl (by kernel_rfl) (by kernel_rfl) (by kernel_rfl) (fun _ _ _ h => h) (.inr ⟨by rfl, rfl⟩) hS0 ?_
      (simp only [List.setIfInBounds_toArray, List.set_cons_zero, List.set_cons_succ])
      refine anyH_take 6 15 undef rfl rfl (by kernel_rfl) (by kernel_rfl) (by kernel_rfl) (fun _ _ _ h => h) (.inr ⟨by rfl, rfl⟩) hS0 ?_
      (simp only [List.setIfInBounds_toArray, List.set_cons_zero, List.set_cons_succ])
      refine anyH_take 7 16 (.bool false) rfl rfl (by kernel_rfl) (by kernel_rfl) (by kernel_rfl) (fun _ _ _ h => h) (.inl ⟨by rfl, fun w'' hS => by go_simp⟩) hS0 ?_
      (simp only [List.setIfInBounds_toArray, List.set_cons_zero, List.set_cons_succ])
      refine anyH_take 8 17 (.bool false) rfl rfl (by kernel_rfl) (by kernel_rfl) (by kernel_rfl) (fun _ _ _ h => h) (.inl ⟨by rfl, fun w'' hS => by go_simp⟩) hS0 ?_
      (simp only [List.setIfInBounds_toArray, List.set_cons_zero, List.set_cons_succ])
      refine anyH_take 9 18 undef rfl rfl (by kernel_rfl) (by kernel_rfl) (by kernel_rfl) (fun _ _ _ h => h) (.inr ⟨by rfl, rfl⟩) hS0 ?_
      (simp only [List.setIfInBounds_toArray, List.set_cons_zero, List.set_cons_succ])
      refine anyH_take 10 19 undef rfl rfl (by kernel_rfl) (by kernel_rfl) (by kernel_rfl) (fun _ _ _ h => h) (.inr ⟨by rfl, rfl⟩) hS0 ?_
      (simp only [List.setIfInBounds_toArray, List.set_cons_zero, List.set_cons_succ])
      refine anyH_take 11 20 undef rfl rfl (by kernel_rfl) (by kernel_rfl) (by kernel_rfl) (fun _ _ _ h => h) (.inr ⟨by rfl, rfl⟩) hS0 ?_
      (simp only [List.setIfInBounds_toArray, List.set_cons_zero, List.set_cons_succ])
      refine anyH_take 12 21 undef rfl rfl (by kernel_rfl) (by kernel_rfl) (by kernel_rfl) (fun _ _ _ h => h) (.inr ⟨by rfl, rfl⟩) hS0 ?_
      (simp only [List.setIfInBounds_toArray, List.set_cons_zero, List.set_cons_succ])
      refine anyH_take 13 22 undef rfl rfl (by kernel_rfl) (by kernel_rfl) (by kernel_rfl) (fun _ _ _ h => h) (.inr ⟨by rfl, rfl⟩) hS0 ?_
      (simp only [List.setIfInBounds_toArray, List.set_cons_zero, List.set_cons_succ])
      refine anyH_take 14 23 undef rfl rfl (by kernel_rfl) (by kernel_rfl) (by kernel_rfl) (fun _ _ _ h => h) (.inr ⟨by rfl, rfl⟩) hS0 ?_
      (simp only [List.setIfInBounds_toArray, List.set_cons_zero, List.set_cons_succ])
      refine anyH_take 15 24 (.bool false) rfl rfl (by kernel_rfl) (by kernel_rfl) (by kernel_rfl) (fun _ _ _ h => h) (.inl ⟨by rfl, fun w'' hS => by go_simp⟩) hS0 ?_
      (simp only [List.setIfInBounds_toArray, List.set_cons_zero, List.set_cons_succ])
      refine anyH_take 16 25 (.bool false) rfl rfl (by kernel_rfl) (by kernel_rfl) (by kernel_rfl) (fun _ _ _ h => h) (.inl ⟨by rfl, fun w'' hS => by go_simp⟩) hS0 ?_
      (simp only [List.setIfInBounds_toArray, List.set_cons_zero, List.set_cons_succ])
      refine anyH_take 17 26 undef rfl rfl (by kernel_rfl) (by kernel_rfl) (by kernel_rfl) (fun _ _ _ h => h) (.inr ⟨by rfl, rfl⟩) hS0 ?_
      (simp only [List.setIfInBounds_toArray, List.set_cons_zero, List.set_cons_succ])
      refine anyH_take 18 27 undef rfl rfl (by kernel_rfl) (by kernel_rfl) (by kernel_rfl) (fun _ _ _ h => h) (.inr ⟨by rfl, rfl⟩) hS0 ?_
      (simp only [List.setIfInBounds_toArray, List.set_cons_zero, List.set_cons_succ])
      refine anyH_take 19 28 undef rfl rfl (by kernel_rfl) (by kernel_rfl) (by kernel_rfl) (fun _ _ _ h => h) (.inr ⟨by rfl, rfl⟩) hS0 ?_
      (simp only [List.setIfInBounds_toArray, List.set_cons_zero, List.set_cons_succ])
      refine anyH_take 20 29 (.bool false) rfl rfl (by kernel_rfl) (by kernel_rfl) (by kernel_rfl) (fun _ _ _ h => h) (.inl ⟨by rfl, fun w'' hS => by go_simp⟩) hS0 ?_
      (simp only [List.setIfInBounds_toArray, List.set_cons_zero, List.set_cons_succ])
      refine anyH_take 21 4 (.bool false) rfl rfl (by kernel_rfl) (by kernel_rfl) (by kernel_rfl) (fun _ _ _ h => h) (.inl ⟨by rfl, fun w'' hS => by go_simp⟩) hS0 ?_
      (simp only [List.setIfInBounds_toArray, List.set_cons_zero, List.set_cons_succ])
      refine wpAnyH_done (by kernel_rfl) ?_ _
      clear hx3
      have HF2 := Lib.hid hS0
      clear hS0
      go_wp2_with fail
      go_ret
      exact ⟨rfl, HB.out.1.trans HF2.out (fun _ _ q => q)⟩
  · have b9 : (st == 9) = false := by rw [beq_eq_false_iff_ne]; exact h9
    have H9 := Lib.hid h9
    clear h9
    by_cases h5 : st = 5
    · have b5 : (st == 5) = true := by rw [beq_iff_eq]; exact h5
      have H5 := Lib.hid h5
      clear h5
      go_enter Try.func83, Try.ntmps83
      go_upto_region 1 with fail
      rw [← HQ.out]
      clear HQ
      by_cases g0 : ho2 = 0
      · have b0 : (ho2 == 0) = true := by rw [beq_iff_eq]; exact g0
        obtain ⟨q, hq⟩ : ∃ q, q = (numB nx && decide (nx ≠ own)) := ⟨_, rfl⟩
        rw [← hq] at HAN
        obtain rfl : r = q := by rw [HR.out, hq]; simp [H9.out, H5.out, g0]
        clear hq
        go_wp2_with fail
        refine (HAN.out _).mono ?_
        rintro e w1 ⟨rfl, rfl⟩
        clear g0
        go_wp2_with fail
        go_ret
        exact ⟨rfl, HB.out.1⟩
      · have b0 : (ho2 == 0) = false := by rw [beq_eq_false_iff_ne]; exact g0
        obtain rfl : r = false := by rw [HR.out]; simp [H9.out, H5.out, g0]
        clear g0
        go_wp2_with fail
        go_ret
        exact ⟨rfl, HB.out.1⟩
    · have b5 : (st == 5) = false := by rw [beq_eq_false_iff_ne]; exact h5
      have H5 := Lib.hid h5
      clear h5
      go_enter Try.func83, Try.ntmps83
      go_upto_region 1 with fail
      rw [← HQ.out]
      clear HQ
      by_cases g0 : ho2 = 0
      · have b0 : (ho2 == 0) = true := by rw [beq_iff_eq]; exact g0
        by_cases g1 : nx = 0
        · have b1 : ((nx : Int) == 0) = true := by rw [beq_iff_eq]; omega
          obtain rfl : r = true := by rw [HR.out]; simp [H9.out, H5.out, g0, g1]
          clear g0 g1
          go_wp2_with fail
          go_ret
          exact ⟨rfl, HB.out.1⟩
        · have b1 : ((nx : Int) == 0) = false := by rw [beq_eq_false_iff_ne]; omega
          obtain rfl : r = false := by rw [HR.out]; simp [H9.out, H5.out, g1]
          clear g0 g1
          go_wp2_with fail
          go_ret
          exact ⟨rfl, HB.out.1⟩
      · have b0 : (ho2 == 0) = false := by rw [beq_eq_false_iff_ne]; exact g0
        obtain rfl : r = false := by rw [HR.out]; simp [H9.out, H5.out, g0]
        clear g0
        go_wp2_with fail
        go_ret
        exact ⟨rfl, HB.out.1⟩
set_option maxRecDepth 100000 in
set_option maxHeartbeats 4000000 in
theorem pchain_any {w : World} {v : Value} {t : TkD} (hv : TkV w v t) (hok : TkOk t) : Calls Try.prog 41 #[v] w fun e w' => e = .returned (.bool (numB t.fst && chainB t)) ∧ Fr (fun _ => False) w w' := by
  obtain ⟨r, hr⟩ : ∃ r, r = (numB t.fst && chainB t) := ⟨_, rfl⟩
  rw [← hr]
  have HR := Lib.hid hr
  have HV := Lib.hid hv
  obtain ⟨sc, sx, se, rfl, a1, a2, a3⟩ := hv
  have HA := Lib.hid (And.intro a1 (And.intro a2 a3))
  obtain ⟨A1, n1, c1, e1, l1⟩ : ∃ A n c, sc = .slice A n c ∧ n = t.cps.length := by obtain ⟨A, c, e, _⟩ := a1.slice; exact ⟨A, _, c, e, rfl⟩
  obtain ⟨A2, n2, c2, e2, l2⟩ : ∃ A n c, sx = .slice A n c ∧ n = t.txs.length := by obtain ⟨A, c, e, _⟩ := a2.slice; exact ⟨A, _, c, e, rfl⟩
  obtain ⟨A3, n3, c3, e3, l3⟩ : ∃ A n c, se = .slice A n c ∧ n = t.his.length := by obtain ⟨A, c, e, _⟩ := a3.slice; exact ⟨A, _, c, e, rfl⟩
  subst e1 e2 e3
  have HL := Lib.hid (And.intro l1 (And.intro l2 l3))
  obtain ⟨W0, hW0⟩ : ∃ W, W = w.alloc (.cells (tkA t (.slice A1 n1 c1) (.slice A2 n2 c2) (.slice A3 n3 c3)) 27) := ⟨_, rfl⟩
  have HB : Hid (Fr (fun _ => False) w W0 ∧ Blk W0 w.heap.size 27 (tkA t (.slice A1 n1 c1) (.slice A2 n2 c2) (.slice A3 n3 c3)) ∧ W0.heap.size = w.heap.size + 1) := Lib.hid (by rw [hW0]; exact ⟨(Fr.refl _ w).alloc _, Blk.new w _ _, Array.size_push _⟩)
  have HQ := Lib.hid hW0
  have hx7 : W0.cell? ⟨w.heap.size, 7, none⟩ = some (.int .u64 (t.fst : Nat)) := cp_cell HB.out.2.1 7 rfl
  have hx5 : W0.cell? ⟨w.heap.size, 5, none⟩ = some (.int .u64 (t.prv : Nat)) := cp_cell HB.out.2.1 5 rfl
  have hx6 : W0.cell? ⟨w.heap.size, 6, none⟩ = some (.int .u64 (t.org : Nat)) := cp_cell HB.out.2.1 6 rfl
  have hx0 : W0.cell? ⟨w.heap.size, 0, none⟩ = some (.int .u64 (t.num : Nat)) := cp_cell HB.out.2.1 0 rfl
  have HCF := Lib.hid (fun W => ncheck_any t.fst hok.fst W)
  obtain ⟨k, hk⟩ : ∃ k, k = chkE t.fst := ⟨_, rfl⟩
  rw [← hk] at HCF
  have HAP := Lib.hid (fun W => pano_any t.prv t.num hok.prv W)
  have HAO := Lib.hid (fun W => pano_any t.org t.num hok.org W)
  clear hr hok
  clear a1 a2 a3 l1 l2 l3 hW0
  by_cases g0 : k = 0
  · have b0 : ((k : Int) != 0) = false := by rw [bne_eq_false_iff_eq]; omega
    have b0e : numB t.fst = true := by unfold numB; rw [← hk]; exact decide_eq_true g0
    by_cases g1 : t.prv = 0
    · have b1 : ((t.prv : Int) == 0) = true := by rw [beq_iff_eq]; omega
      by_cases g2 : t.org = t.num
      · have b2 : ((t.org : Int) == (t.num : Int)) = true := by rw [beq_iff_eq]; omega
        obtain rfl : r = true := by rw [HR.out, b0e]; unfold chainB; simp [g1, g2]
        clear hk g0 g1 g2 b0e
        go_enter Try.func41, Try.ntmps41
        go_upto_region 1 with fail
        rw [← HQ.out]
        clear HQ
        go_wp2_with fail
        refine (HCF.out _).mono ?_
        rintro e w1 ⟨rfl, rfl⟩
        go_wp2_with fail
        go_ret
        exact ⟨rfl, HB.out.1⟩
      · have b2 : ((t.org : Int) == (t.num : Int)) = false := by rw [beq_eq_false_iff_ne]; omega
        obtain rfl : r = false := by rw [HR.out, b0e]; unfold chainB; simp [g1, g2]
        clear hk g0 g1 g2 b0e
        go_enter Try.func41, Try.ntmps41
        go_upto_region 1 with fail
        rw [← HQ.out]
        clear HQ
        go_wp2_with fail
        refine (HCF.out _).mono ?_
        rintro e w1 ⟨rfl, rfl⟩
        go_wp2_with fail
        go_ret
        exact ⟨rfl, HB.out.1⟩
    · have b1 : ((t.prv : Int) == 0) = false := by rw [beq_eq_false_iff_ne]; omega
      cases g2 : (numB t.prv && decide (t.prv ≠ t.num)) with
      | false =>
        rw [g2] at HAP
        obtain rfl : r = false := by rw [HR.out, b0e]; unfold chainB; rw [if_neg g1, g2]; rfl
        clear hk g0 g1 g2 b0e
        go_enter Try.func41, Try.ntmps41
        go_upto_region 1 with fail
        rw [← HQ.out]
        clear HQ
        go_wp2_with fail
        refine (HCF.out _).mono ?_
        rintro e w1 ⟨rfl, rfl⟩
        go_wp2_with fail
        refine (HAP.out _).mono ?_
        rintro e w1 ⟨rfl, rfl⟩
        go_wp2_with fail
        go_ret
        exact ⟨rfl, HB.out.1⟩
      | true =>
        rw [g2] at HAP
        obtain ⟨q, hq⟩ : ∃ q, q = (numB t.org && decide (t.org ≠ t.num)) := ⟨_, rfl⟩
        obtain rfl : r = q := by rw [HR.out, b0e]; unfold chainB; rw [if_neg g1, g2, hq]; simp [Bool.and_assoc]
        rw [← hq] at HAO
        clear hk g0 g1 g2 b0e hq
        go_enter Try.func41, Try.ntmps41
        go_upto_region 1 with fail
        rw [← HQ.out]
        clear HQ
        go_wp2_with fail
        refine (HCF.out _).mono ?_
        rintro e w1 ⟨rfl, rfl⟩
        go_wp2_with fail
        refine (HAP.out _).mono ?_
        rintro e w1 ⟨rfl, rfl⟩
        go_wp2_with fail
        refine (HAO.out _).mono ?_
        rintro e w1 ⟨rfl, rfl⟩
        go_wp2_with fail
        go_ret
        exact ⟨rfl, HB.out.1⟩
  · have b0 : ((k : Int) != 0) = true := by rw [bne_iff_ne]; omega
    obtain rfl : r = false := by rw [HR.out]; unfold numB; rw [← hk, decide_eq_false g0]; rfl
    clear hk g0
    go_enter Try.func41, Try.ntmps41
    go_upto_region 1 with fail
    rw [← HQ.out]
    clear HQ
    go_wp2_with fail
    refine (HCF.out _).mono ?_
    rintro e w1 ⟨rfl, rfl⟩
    go_wp2_with fail
    go_ret
    exact ⟨rfl, HB.out.1⟩
def countsB (t : TkD) : Bool := decide (0 ≤ t.vou) && decide (t.vou ≤ 1125899906842624) && decide (0 ≤ t.pos) && decide (t.pos ≤ 200)
set_option maxRecDepth 100000 in
theorem pcounts_any {w : World} {v : Value} {t : TkD} (hv : TkV w v t) : Calls Try.prog 42 #[v] w fun e w' => e = .returned (.bool (countsB t)) ∧ Fr (fun _ => False) w w' := by
  obtain ⟨r, hr⟩ : ∃ r, r = countsB t := ⟨_, rfl⟩
  rw [← hr]
  have HV := Lib.hid hv
  obtain ⟨sc, sx, se, rfl, a1, a2, a3⟩ := hv
  have HA := Lib.hid (And.intro a1 (And.intro a2 a3))
  obtain ⟨A1, n1, c1, e1, l1⟩ : ∃ A n c, sc = .slice A n c ∧ n = t.cps.length := by obtain ⟨A, c, e, _⟩ := a1.slice; exact ⟨A, _, c, e, rfl⟩
  obtain ⟨A2, n2, c2, e2, l2⟩ : ∃ A n c, sx = .slice A n c ∧ n = t.txs.length := by obtain ⟨A, c, e, _⟩ := a2.slice; exact ⟨A, _, c, e, rfl⟩
  obtain ⟨A3, n3, c3, e3, l3⟩ : ∃ A n c, se = .slice A n c ∧ n = t.his.length := by obtain ⟨A, c, e, _⟩ := a3.slice; exact ⟨A, _, c, e, rfl⟩
  subst e1 e2 e3
  have HL := Lib.hid (And.intro l1 (And.intro l2 l3))
  obtain ⟨W0, hW0⟩ : ∃ W, W = w.alloc (.cells (tkA t (.slice A1 n1 c1) (.slice A2 n2 c2) (.slice A3 n3 c3)) 27) := ⟨_, rfl⟩
  have HB : Hid (Fr (fun _ => False) w W0 ∧ Blk W0 w.heap.size 27 (tkA t (.slice A1 n1 c1) (.slice A2 n2 c2) (.slice A3 n3 c3)) ∧ W0.heap.size = w.heap.size + 1) := Lib.hid (by rw [hW0]; exact ⟨(Fr.refl _ w).alloc _, Blk.new w _ _, Array.size_push _⟩)
  have HQ := Lib.hid hW0
  have hx8 : W0.cell? ⟨w.heap.size, 8, none⟩ = some (.int .i64 t.vou) := cp_cell HB.out.2.1 8 rfl
  have hx9 : W0.cell? ⟨w.heap.size, 9, none⟩ = some (.int .i64 t.pos) := cp_cell HB.out.2.1 9 rfl
  clear a1 a2 a3 l1 l2 l3 hW0
  by_cases g0 : t.vou ≥ 0
  · by_cases g1 : t.vou ≤ 1125899906842624
    · by_cases g2 : t.pos ≥ 0
      · by_cases g3 : t.pos ≤ 200
        · obtain rfl : r = true := by rw [hr]; unfold countsB; simp [g0, g1, g2, g3]
          clear hr
          go_enter Try.func42, Try.ntmps42
          go_upto_region 1 with fail
          rw [← HQ.out]
          clear HQ
          go_wp2_with fail
          go_ret
          exact ⟨rfl, HB.out.1⟩
        · obtain rfl : r = false := by rw [hr]; unfold countsB; simp [g3]
          clear hr
          go_enter Try.func42, Try.ntmps42
          go_upto_region 1 with fail
          rw [← HQ.out]
          clear HQ
          go_wp2_with fail
          go_ret
          exact ⟨rfl, HB.out.1⟩
      · obtain rfl : r = false := by rw [hr]; unfold countsB; simp [g2]
        clear hr
        go_enter Try.func42, Try.ntmps42
        go_upto_region 1 with fail
        rw [← HQ.out]
        clear HQ
        go_wp2_with fail
        go_ret
        exact ⟨rfl, HB.out.1⟩
    · obtain rfl : r = false := by rw [hr]; unfold countsB; simp [g1]
      clear hr
      go_enter Try.func42, Try.ntmps42
      go_upto_region 1 with fail
      rw [← HQ.out]
      clear HQ
      go_wp2_with fail
      go_ret
      exact ⟨rfl, HB.out.1⟩
  · obtain rfl : r = false := by rw [hr]; unfold countsB; simp [g0]
    clear hr
    go_enter Try.func42, Try.ntmps42
    go_upto_region 1 with fail
    rw [← HQ.out]
    clear HQ
    go_wp2_with fail
    go_ret
    exact ⟨rfl, HB.out.1⟩
def hasB (n : Nat) (c : Int) : Bool := decide (1 ≤ c) && decide (c ≤ n)
set_option maxRecDepth 100000 in
theorem phas_any {w : World} {v : Value} {t : TkD} (hv : TkV w v t) (c : Int) : Calls Try.prog 50 #[v, .int .i64 c] w fun e w' => e = .returned (.bool (hasB t.cps.length c)) ∧ Fr (fun _ => False) w w' := by
  obtain ⟨r, hr⟩ : ∃ r, r = hasB t.cps.length c := ⟨_, rfl⟩
  rw [← hr]
  have HV := Lib.hid hv
  obtain ⟨sc, sx, se, rfl, a1, a2, a3⟩ := hv
  have HA := Lib.hid (And.intro a1 (And.intro a2 a3))
  obtain ⟨A1, n1, c1, e1, l1⟩ : ∃ A n c, sc = .slice A n c ∧ n = t.cps.length := by obtain ⟨A, c, e, _⟩ := a1.slice; exact ⟨A, _, c, e, rfl⟩
  obtain ⟨A2, n2, c2, e2, l2⟩ : ∃ A n c, sx = .slice A n c ∧ n = t.txs.length := by obtain ⟨A, c, e, _⟩ := a2.slice; exact ⟨A, _, c, e, rfl⟩
  obtain ⟨A3, n3, c3, e3, l3⟩ : ∃ A n c, se = .slice A n c ∧ n = t.his.length := by obtain ⟨A, c, e, _⟩ := a3.slice; exact ⟨A, _, c, e, rfl⟩
  subst e1 e2 e3
  have HL := Lib.hid (And.intro l1 (And.intro l2 l3))
  obtain ⟨W0, hW0⟩ : ∃ W, W = w.alloc (.cells (tkA t (.slice A1 n1 c1) (.slice A2 n2 c2) (.slice A3 n3 c3)) 27) := ⟨_, rfl⟩
  have HB : Hid (Fr (fun _ => False) w W0 ∧ Blk W0 w.heap.size 27 (tkA t (.slice A1 n1 c1) (.slice A2 n2 c2) (.slice A3 n3 c3)) ∧ W0.heap.size = w.heap.size + 1) := Lib.hid (by rw [hW0]; exact ⟨(Fr.refl _ w).alloc _, Blk.new w _ _, Array.size_push _⟩)
  have HQ := Lib.hid hW0
  have hx3 : W0.cell? ⟨w.heap.size, 3, none⟩ = some (.slice A1 n1 c1) := cp_cell HB.out.2.1 3 rfl
  rw [← l1] at hr
  clear a1 a2 a3 l1 l2 l3 hW0
  by_cases g0 : c ≥ 1
  · by_cases g1 : c ≤ (n1 : Int)
    · obtain rfl : r = true := by rw [hr]; unfold hasB; simp; omega
      clear hr
      go_enter Try.func50, Try.ntmps50
      go_upto_region 1 with fail
      rw [← HQ.out]
      clear HQ
      go_wp2_with fail
      go_ret
      exact ⟨rfl, HB.out.1⟩
    · obtain rfl : r = false := by rw [hr]; unfold hasB; simp; omega
      clear hr
      go_enter Try.func50, Try.ntmps50
      go_upto_region 1 with fail
      rw [← HQ.out]
      clear HQ
      go_wp2_with fail
      go_ret
      exact ⟨rfl, HB.out.1⟩
  · obtain rfl : r = false := by rw [hr]; unfold hasB; simp; omega
    clear hr
    go_enter Try.func50, Try.ntmps50
    go_upto_region 1 with fail
    rw [← HQ.out]
    clear HQ
    go_wp2_with fail
    go_ret
    exact ⟨rfl, HB.out.1⟩
theorem pre_ix {n m : Nat} (h : n = m + 1) (h0 : m ≤ 1000) : (n : Int) - 1 = (m : Int) ∧ wrap64 (m : Int) = (m : Int) ∧ (0 : Int) ≤ (m : Int) ∧ (m : Int) < (n : Int) := ⟨by omega, wrap64_in (by omega) (by omega), by omega, by omega⟩
set_option maxRecDepth 100000 in
theorem plast_any {w : World} {v : Value} {t : TkD} (hv : TkV w v t) (hn : t.his.length ≤ 1000) : Calls Try.prog 53 #[v] w fun e w' => e = .returned (.int .i64 (lastT t)) ∧ Fr (fun _ => False) w w' := by
  obtain ⟨z, hz⟩ : ∃ z, z = lastT t := ⟨_, rfl⟩
  rw [← hz]
  have HV := Lib.hid hv
  obtain ⟨sc, sx, se, rfl, a1, a2, a3⟩ := hv
  have HA := Lib.hid (And.intro a1 (And.intro a2 a3))
  obtain ⟨A1, n1, c1, e1, l1⟩ : ∃ A n c, sc = .slice A n c ∧ n = t.cps.length := by obtain ⟨A, c, e, _⟩ := a1.slice; exact ⟨A, _, c, e, rfl⟩
  obtain ⟨A2, n2, c2, e2, l2⟩ : ∃ A n c, sx = .slice A n c ∧ n = t.txs.length := by obtain ⟨A, c, e, _⟩ := a2.slice; exact ⟨A, _, c, e, rfl⟩
  obtain ⟨A3, n3, c3, e3, l3⟩ : ∃ A n c, se = .slice A n c ∧ n = t.his.length := by obtain ⟨A, c, e, _⟩ := a3.slice; exact ⟨A, _, c, e, rfl⟩
  subst e1 e2 e3
  have HL := Lib.hid (And.intro l1 (And.intro l2 l3))
  obtain ⟨W0, hW0⟩ : ∃ W, W = w.alloc (.cells (tkA t (.slice A1 n1 c1) (.slice A2 n2 c2) (.slice A3 n3 c3)) 27) := ⟨_, rfl⟩
  have HB : Hid (Fr (fun _ => False) w W0 ∧ Blk W0 w.heap.size 27 (tkA t (.slice A1 n1 c1) (.slice A2 n2 c2) (.slice A3 n3 c3)) ∧ W0.heap.size = w.heap.size + 1) := Lib.hid (by rw [hW0]; exact ⟨(Fr.refl _ w).alloc _, Blk.new w _ _, Array.size_push _⟩)
  have HQ := Lib.hid hW0
  rcases Nat.eq_zero_or_pos n3 with h0 | h0
  · obtain rfl : z = t.iss := by
      have hh : t.his = [] := List.length_eq_zero_iff.1 (by omega)
      rw [hz]
      unfold lastT
      rw [hh]
      rfl
    have b0 : ¬ (n3 : Int) > 0 := by omega
    have hx : W0.cell? ⟨w.heap.size, 2, none⟩ = some (.int .i64 t.iss) := cp_cell HB.out.2.1 2 rfl
    have hx3 : W0.cell? ⟨w.heap.size, 10, none⟩ = some (.slice A3 n3 c3) := cp_cell HB.out.2.1 10 rfl
    clear a1 a2 a3 l1 l2 l3 hW0 hn hz h0
    go_enter Try.func53, Try.ntmps53
    go_upto_region 1 with fail
    rw [← HQ.out]
    clear HQ
    go_wp2_with fail
    clear hx hx3 b0
    go_ret
    exact ⟨rfl, HB.out.1⟩
  · obtain ⟨m, hm⟩ : ∃ m, n3 = m + 1 := ⟨n3 - 1, by omega⟩
    obtain ⟨x, hx⟩ : ∃ x, t.his[m]? = some x := ⟨_, List.getElem?_eq_getElem (by omega)⟩
    obtain ⟨b3, o3, cc3, e3, hc3⟩ := HA.out.2.2.cell hx
    injection e3 with e3 e3n e3c
    subst e3
    have hzx : z = x.dy := by
      rw [hz]
      unfold lastT
      rw [List.getLast?_eq_getElem?, show t.his.length - 1 = m by omega, hx]
      rfl
    have hy : W0.cell? ⟨b3, o3 + m * 4, none⟩ = some (.int .i64 z) := by
      have h5 := hc3 0 (.int .i64 x.dy) rfl
      rw [hzx]
      exact (HB.out.1.cell (World.block_lt_of_cell? w _ h5) (fun q => q)).trans h5
    have hx3 : W0.cell? ⟨w.heap.size, 10, none⟩ = some (.slice (some ⟨b3, o3, none⟩) n3 c3) := cp_cell HB.out.2.1 10 rfl
    have b0 : (n3 : Int) > 0 := by omega
    have b0' : 0 < n3 := h0
    have i0 : m ≤ 1000 := by omega
    obtain ⟨i1, i2, i3, i4⟩ := pre_ix hm i0
    clear a1 a2 a3 l1 l2 l3 hW0 hz hm hx hc3 e3n e3c hzx
    go_enter Try.func53, Try.ntmps53
    go_upto_region 1 with fail
    rw [← HQ.out]
    clear HQ
    go_wp2_with fail
    go_ret
    exact ⟨rfl, HB.out.1⟩
end Go.Proofs.Ytmopkfjnjbimnaa
