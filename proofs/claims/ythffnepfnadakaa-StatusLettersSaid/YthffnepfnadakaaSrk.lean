/- couponref12: Last, Walk. -/
import Derived.Test.YthffnepfnadakaaSre
namespace Go.Proofs.Ythffnepfnadakaa
open Go.RowKit

set_option maxRecDepth 100000 in
set_option maxHeartbeats 1000000 in
theorem rlast_any (a : Int) (w : World) : Calls Try.prog 11 #[.int .i64 a] w fun e w' => e = .returned (.bool (lastS a)) ∧ Fr (fun _ => False) w w' := by
  have HM := Lib.hid (rmays_any a)
  cases hm : mayS a with
  | false =>
    have e : lastS a = false := by unfold lastS; rw [hm]; rfl
    rw [e]
    rw [hm] at HM
    clear hm e
    go_enter Try.func11, Try.ntmps11
    go_wp2_with fail
    refine (HM.out _).mono ?_
    rintro e w1 ⟨rfl, rfl⟩
    go_wp2_with fail
    go_ret
    exact ⟨rfl, Fr.refl _ _⟩
  | true =>
    rw [hm] at HM
    have hr : 1 ≤ a ∧ a ≤ 9 := of_decide_eq_true hm
    obtain ⟨k, rfl⟩ : ∃ k : Nat, a = k := ⟨a.toNat, by omega⟩
    obtain ⟨x, hx⟩ : ∃ x, x = lastS (k : Int) := ⟨_, rfl⟩
    rw [← hx]
    have hxr : (((rowA k).size : Int) == 1) = x := by
      have := all9_of last_row (n := k) (by omega) (by omega)
      rw [beq_iff_eq] at this
      rw [hx]
      unfold lastS
      rw [hm, Int.toNat_natCast, ← this, Bool.true_and, Bool.eq_iff_iff, beq_iff_eq, decide_eq_true_eq]
      have h2 : (rowA k).size = (rowB k).length := size_lst _
      omega
    obtain ⟨i, hi⟩ : ∃ i, i = k - 1 := ⟨_, rfl⟩
    have hki : (k : Int) - 1 = (i : Int) := by omega
    have hat := rowsV_at (a := k) (by omega) (by omega)
    rw [← hi] at hat
    have hi9 : (i : Int) < 9 := by omega
    have hi0 : (0 : Int) ≤ (i : Int) := by omega
    have hk1 : (1 : Int) ≤ (k : Int) := by omega
    have hk9 : (k : Int) ≤ 9 := by omega
    have HR := Lib.hid rrows_any
    have HA := Lib.hid hat
    have HX := Lib.hid hxr
    clear hm hr hat hi hx hxr
    go_enter Try.func11, Try.ntmps11
    go_wp2_with fail
    refine (HM.out _).mono ?_
    rintro e w1 ⟨rfl, rfl⟩
    go_wp2_with fail
    refine (HR.out _).mono ?_
    rintro e w2 ⟨rfl, hw2⟩
    have hc : w2.cell? ⟨w1.heap.size, i, none⟩ = some (.string (rowA k)) := by
      rw [hw2, (Blk.new w1 9 rowsV).cell, HA.out]
    have HF : Hid (Fr (fun _ => False) w1 w2) := Lib.hid (by rw [hw2]; exact (Fr.refl _ _).alloc _)
    clear hw2
    go_wp2_with fail
    go_ret
    exact ⟨by rw [← HX.out]; rfl, HF.out⟩
set_option maxRecDepth 100000 in
set_option maxHeartbeats 2000000 in
theorem rwalk_any {w : World} {v : Value} {zs : List Int} (hv : IntsAt w v zs) (hl : zs.length ≤ 100000) : Calls Try.prog 19 #[v] w fun e w' => e = .returned (.int .i64 (walkAt zs : Nat)) ∧ Fr (fun _ => False) w w' := by
  obtain ⟨A, c1, rfl, hc1, hA⟩ := hv
  obtain ⟨m, hm⟩ : ∃ m, m = zs.length := ⟨_, rfl⟩
  obtain ⟨y, hy⟩ : ∃ y, y = walkAt zs := ⟨_, rfl⟩
  rw [← hm, ← hy]
  have H0 := Lib.hid (And.intro hA (And.intro hm hy))
  have hm9 : m ≤ 100000 := by omega
  clear hA hm hy hc1 hl
  go_enter Try.func19, Try.ntmps19
  go_wp2_with fail
  go_loopw [3] (fun x wr => ∃ i : Nat, x = .int .i64 i ∧ 1 ≤ i ∧ i ≤ m + 1 ∧ Hid (∀ j, 0 < j → j < i → j < m → leadsS (zs.getD (j - 1) 0) (zs.getD j 0) = true) ∧ Hid (Fr (fun _ => False) w wr)) (fun x _ => m + 1 - (intOf x).toNat)
  case atStart => exact ⟨1, rfl, by omega, by omega, Lib.hid (fun j h1 h2 _ => absurd h1 (by omega)), Lib.hid (Fr.refl _ _)⟩
  case round =>
    obtain ⟨i, rfl, hi1, hi2, HB, HF⟩ := hrel
    by_cases hlt : i < m
    · obtain ⟨hA, hm, hy⟩ := H0.out
      obtain ⟨b1, o1, rfl, hcA⟩ := hA (by omega)
      obtain ⟨p, hp⟩ : ∃ p, p = i - 1 := ⟨_, rfl⟩
      obtain ⟨z0, hz0⟩ : ∃ z, zs[p]? = some z := ⟨_, List.getElem?_eq_getElem (by omega)⟩
      obtain ⟨z1, hz1⟩ : ∃ z, zs[i]? = some z := ⟨_, List.getElem?_eq_getElem (by omega)⟩
      have hd0 := hcA p z0 hz0
      have hd1 := hcA i z1 hz1
      have hbl := World.block_lt_of_cell? w _ hd0
      have HC := Lib.hid (And.intro (fun w'' (f : Fr (fun _ => False) w w'') => (f.cell (p := ⟨b1, o1 + p, none⟩) hbl (fun q => q)).trans hd0) (fun w'' (f : Fr (fun _ => False) w w'') => (f.cell (p := ⟨b1, o1 + i, none⟩) hbl (fun q => q)).trans hd1))
      have HI := Lib.hid (And.intro (show (i : Int) - 1 = (p : Int) by omega) (And.intro (show (0 : Int) ≤ (p : Int) by omega) (And.intro (show (p : Int) ≤ 100000 by omega) (And.intro (show (p : Int) < (m : Int) by omega) (And.intro (show (0 : Int) ≤ (i : Int) by omega) (show (i : Int) < (m : Int) by omega))))))
      have hkm : (i : Int) < (m : Int) := by omega
      have hg0 : zs.getD (i - 1) 0 = z0 := by rw [← hp, List.getD_eq_getElem?_getD, hz0]; rfl
      have hg1 : zs.getD i 0 = z1 := by rw [List.getD_eq_getElem?_getD, hz1]; rfl
      have HL := Lib.hid (rleads_any z0 z1)
      cases hq : leadsS z0 z1 with
      | true =>
        rw [hq] at HL
        have HB2 : Hid (∀ j, 0 < j → j < i + 1 → j < m → leadsS (zs.getD (j - 1) 0) (zs.getD j 0) = true) := Lib.hid (fun j h1 h2 h3 => by
          rcases Nat.lt_or_ge j i with h | h
          · exact HB.out j h1 h h3
          · obtain rfl : j = i := by omega
            rw [hg0, hg1, hq])
        have HLT := Lib.hid hlt
        clear hA hm hy hcA hp hz0 hz1 hd0 hd1 hbl hg0 hg1 hq hlt HB
        go_wp2_with fail
        refine wp_region_held_drew (S := fun w' => Fr (fun _ => False) w w') (by kernel_rfl) (HF.out.drew) (fun hS0 => ?_)
        refine anyH_take 0 10 (.slice (some ⟨b1, o1, none⟩) m c1) rfl rfl (by kernel_rfl) (by kernel_rfl) (by kernel_rfl) (fun _ _ _ h => h) (.inl ⟨by rfl, fun w'' hS => by go_simp⟩) hS0 ?_
        (simp only [List.setIfInBounds_toArray, List.set_cons_zero, List.set_cons_succ])
        refine anyH_take 1 11 (.int .i64 (i : Nat)) rfl rfl (by kernel_rfl) (by kernel_rfl) (by kernel_rfl) (fun _ _ _ h => h) (.inl ⟨by rfl, fun w'' hS => by go_simp⟩) hS0 ?_
        (simp only [List.setIfInBounds_toArray, List.set_cons_zero, List.set_cons_succ])
        refine anyH_take 2 12 (.int .i64 (p : Nat)) rfl rfl (by kernel_rfl) (by kernel_rfl) (by kernel_rfl) (fun _ _ _ h => h) (.inl ⟨by rfl, fun w'' hS => by have q0 := HI.out.1; have q1 := wrapI_id (z := (p : Int)) (by have := HI.out.2.1; omega) (by have := HI.out.2.2.1; omega); go_simp⟩) hS0 ?_
        (simp only [List.setIfInBounds_toArray, List.set_cons_zero, List.set_cons_succ])
        refine anyH_take 3 13 (.pointer (some ⟨b1, o1 + p, none⟩)) rfl rfl (by kernel_rfl) (by kernel_rfl) (by kernel_rfl) (fun _ _ _ h => h) (.inl ⟨by rfl, fun w'' hS => by have q0 := HI.out.2.1; have q1 := HI.out.2.2.2.1; go_simp⟩) hS0 ?_
        (simp only [List.setIfInBounds_toArray, List.set_cons_zero, List.set_cons_succ])
        refine anyH_take 4 14 (.int .i64 z0) rfl rfl (by kernel_rfl) (by kernel_rfl) (by kernel_rfl) (fun _ _ _ h => h) (.inl ⟨by rfl, fun w'' hS => by have q0 := HC.out.1 w'' hS; go_simp⟩) hS0 ?_
        (simp only [List.setIfInBounds_toArray, List.set_cons_zero, List.set_cons_succ])
        refine anyH_take 5 15 (.slice (some ⟨b1, o1, none⟩) m c1) rfl rfl (by kernel_rfl) (by kernel_rfl) (by kernel_rfl) (fun _ _ _ h => h) (.inl ⟨by rfl, fun w'' hS => by go_simp⟩) hS0 ?_
        (simp only [List.setIfInBounds_toArray, List.set_cons_zero, List.set_cons_succ])
        refine anyH_take 6 16 (.int .i64 (i : Nat)) rfl rfl (by kernel_rfl) (by kernel_rfl) (by kernel_rfl) (fun _ _ _ h => h) (.inl ⟨by rfl, fun w'' hS => by go_simp⟩) hS0 ?_
        (simp only [List.setIfInBounds_toArray, List.set_cons_zero, List.set_cons_succ])
        refine anyH_take 7 17 (.pointer (some ⟨b1, o1 + i, none⟩)) rfl rfl (by kernel_rfl) (by kernel_rfl) (by kernel_rfl) (fun _ _ _ h => h) (.inl ⟨by rfl, fun w'' hS => by have q0 := HI.out.2.2.2.2.1; have q1 := HI.out.2.2.2.2.2; go_simp⟩) hS0 ?_
        (simp only [List.setIfInBounds_toArray, List.set_cons_zero, List.set_cons_succ])
        refine anyH_take 8 18 (.int .i64 z1) rfl rfl (by kernel_rfl) (by kernel_rfl) (by kernel_rfl) (fun _ _ _ h => h) (.inl ⟨by rfl, fun w'' hS => by have q0 := HC.out.2 w'' hS; go_simp⟩) hS0 ?_
        (simp only [List.setIfInBounds_toArray, List.set_cons_zero, List.set_cons_succ])
        refine anyH_one 9 19 (.bool true) (by kernel_rfl) (tame_call 19 rfl rfl (by rfl) (fun w'' hS => by go_simp) (fun w'' hS => (HL.out w'').mono fun e w3 he => ⟨he.1, hS.trans he.2 (fun _ _ q => q)⟩)) hS0 (fun wq0 hSq => ?_)
        (simp only [List.setIfInBounds_toArray, List.set_cons_zero, List.set_cons_succ])
        refine anyH_take 10 20 (.bool false) rfl rfl (by kernel_rfl) (by kernel_rfl) (by kernel_rfl) (fun _ _ _ h => h) (.inl ⟨by rfl, fun w'' hS => by go_simp⟩) hSq ?_
        (simp only [List.setIfInBounds_toArray, List.set_cons_zero, List.set_cons_succ])
        refine wpAnyH_done (by kernel_rfl) ?_ _
        have HF3 := Lib.hid hSq
        clear hSq hS0
        go_wp2_with fail
        refine ⟨⟨i + 1, by go_num, by omega, by have := HLT.out; omega, HB2, HF3⟩, ?_⟩
        simp [intOf]
        have := HLT.out
        omega
      | false =>
        rw [hq] at HL
        have hyi : y = i := by
          rw [hy]
          exact walk_at (by omega) (by omega) (fun j h1 h2 => HB.out j h1 h2 (by omega)) (by rw [hg0, hg1, hq])
        subst hyi
        clear hA hm hy hcA hp hz0 hz1 hd0 hd1 hbl hg0 hg1 hq hlt HB
        go_wp2_with fail
        refine wp_region_held_drew (S := fun w' => Fr (fun _ => False) w w') (by kernel_rfl) (HF.out.drew) (fun hS0 => ?_)
        refine anyH_take 0 10 (.slice (some ⟨b1, o1, none⟩) m c1) rfl rfl (by kernel_rfl) (by kernel_rfl) (by kernel_rfl) (fun _ _ _ h => h) (.inl ⟨by rfl, fun w'' hS => by go_simp⟩) hS0 ?_
        (simp only [List.setIfInBounds_toArray, List.set_cons_zero, List.set_cons_succ])
        refine anyH_take 1 11 (.int .i64 (y : Nat)) rfl rfl (by kernel_rfl) (by kernel_rfl) (by kernel_rfl) (fun _ _ _ h => h) (.inl ⟨by rfl, fun w'' hS => by go_simp⟩) hS0 ?_
        (simp only [List.setIfInBounds_toArray, List.set_cons_zero, List.set_cons_succ])
        refine anyH_take 2 12 (.int .i64 (p : Nat)) rfl rfl (by kernel_rfl) (by kernel_rfl) (by kernel_rfl) (fun _ _ _ h => h) (.inl ⟨by rfl, fun w'' hS => by have q0 := HI.out.1; have q1 := wrapI_id (z := (p : Int)) (by have := HI.out.2.1; omega) (by have := HI.out.2.2.1; omega); go_simp⟩) hS0 ?_
        (simp only [List.setIfInBounds_toArray, List.set_cons_zero, List.set_cons_succ])
        refine anyH_take 3 13 (.pointer (some ⟨b1, o1 + p, none⟩)) rfl rfl (by kernel_rfl) (by kernel_rfl) (by kernel_rfl) (fun _ _ _ h => h) (.inl ⟨by rfl, fun w'' hS => by have q0 := HI.out.2.1; have q1 := HI.out.2.2.2.1; go_simp⟩) hS0 ?_
        (simp only [List.setIfInBounds_toArray, List.set_cons_zero, List.set_cons_succ])
        refine anyH_take 4 14 (.int .i64 z0) rfl rfl (by kernel_rfl) (by kernel_rfl) (by kernel_rfl) (fun _ _ _ h => h) (.inl ⟨by rfl, fun w'' hS => by have q0 := HC.out.1 w'' hS; go_simp⟩) hS0 ?_
        (simp only [List.setIfInBounds_toArray, List.set_cons_zero, List.set_cons_succ])
        refine anyH_take 5 15 (.slice (some ⟨b1, o1, none⟩) m c1) rfl rfl (by kernel_rfl) (by kernel_rfl) (by kernel_rfl) (fun _ _ _ h => h) (.inl ⟨by rfl, fun w'' hS => by go_simp⟩) hS0 ?_
        (simp only [List.setIfInBounds_toArray, List.set_cons_zero, List.set_cons_succ])
        refine anyH_take 6 16 (.int .i64 (y : Nat)) rfl rfl (by kernel_rfl) (by kernel_rfl) (by kernel_rfl) (fun _ _ _ h => h) (.inl ⟨by rfl, fun w'' hS => by go_simp⟩) hS0 ?_
        (simp only [List.setIfInBounds_toArray, List.set_cons_zero, List.set_cons_succ])
        refine anyH_take 7 17 (.pointer (some ⟨b1, o1 + y, none⟩)) rfl rfl (by kernel_rfl) (by kernel_rfl) (by kernel_rfl) (fun _ _ _ h => h) (.inl ⟨by rfl, fun w'' hS => by have q0 := HI.out.2.2.2.2.1; have q1 := HI.out.2.2.2.2.2; go_simp⟩) hS0 ?_
        (simp only [List.setIfInBounds_toArray, List.set_cons_zero, List.set_cons_succ])
        refine anyH_take 8 18 (.int .i64 z1) rfl rfl (by kernel_rfl) (by kernel_rfl) (by kernel_rfl) (fun _ _ _ h => h) (.inl ⟨by rfl, fun w'' hS => by have q0 := HC.out.2 w'' hS; go_simp⟩) hS0 ?_
        (simp only [List.setIfInBounds_toArray, List.set_cons_zero, List.set_cons_succ])
        refine anyH_one 9 19 (.bool false) (by kernel_rfl) (tame_call 19 rfl rfl (by rfl) (fun w'' hS => by go_simp) (fun w'' hS => (HL.out w'').mono fun e w3 he => ⟨he.1, hS.trans he.2 (fun _ _ q => q)⟩)) hS0 (fun wq0 hSq => ?_)
        (simp only [List.setIfInBounds_toArray, List.set_cons_zero, List.set_cons_succ])
        refine anyH_take 10 20 (.bool true) rfl rfl (by kernel_rfl) (by kernel_rfl) (by kernel_rfl) (fun _ _ _ h => h) (.inl ⟨by rfl, fun w'' hS => by go_simp⟩) hSq ?_
        (simp only [List.setIfInBounds_toArray, List.set_cons_zero, List.set_cons_succ])
        refine wpAnyH_done (by kernel_rfl) ?_ _
        have HF3 := Lib.hid hSq
        clear hSq hS0
        go_wp2_with fail
        go_ret
        exact ⟨rfl, HF3.out⟩
    · have hkm : ¬ (i : Int) < (m : Int) := by omega
      have hyz : y = 0 := by
        rw [H0.out.2.2]
        exact walk_none (fun j h1 h2 => HB.out j h1 (by have := H0.out.2.1; omega) (by have := H0.out.2.1; omega))
      subst hyz
      clear hlt HB
      go_wp2_with fail
      go_ret
      exact ⟨rfl, HF.out⟩
end Go.Proofs.Ythffnepfnadakaa
