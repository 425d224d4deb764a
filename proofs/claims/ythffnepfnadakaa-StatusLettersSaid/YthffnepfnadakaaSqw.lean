/- The call of the landed status: Walk. -/
import Derived.Test.YthffnepfnadakaaSqv
import Derived.Test.YthffnepfnadakaaStm
import Derived.Deep.QuietTactic
import Derived.BigQuiet
namespace Go.Proofs.Ythffnepfnadakaa
open Go.RowKit

set_option maxRecDepth 100000 in
set_option maxHeartbeats 2000000 in
theorem pwalk_any {w : World} {v : Value} {zs : List Int} (hv : IntsAt w v zs) (hl : zs.length ≤ 100000) : Calls Try.prog 18 #[v] w fun e w' => e = .returned (.tuple #[.int .i64 (walkN zs : Nat), .int .i64 (walkE zs : Nat)]) ∧ Fr (fun _ => False) w w' := by
  obtain ⟨A, c1, rfl, hc1, hA⟩ := hv
  obtain ⟨m, hm⟩ : ∃ m, m = zs.length := ⟨_, rfl⟩
  obtain ⟨N, hN⟩ : ∃ N, N = walkN zs := ⟨_, rfl⟩
  obtain ⟨E, hE⟩ : ∃ E, E = walkE zs := ⟨_, rfl⟩
  rw [← hm, ← hN, ← hE]
  have H0 := Lib.hid (And.intro hA (And.intro hm (And.intro hN hE)))
  have hm9 : m ≤ 100000 := by omega
  have HPL := Lib.hid (fun a b => pleads_any a b)
  have HPC := Lib.hid (pcont_any (w := w) (v := .slice A m c1) (zs := zs) ⟨A, c1, by rw [hm], by omega, hA⟩ (by omega))
  cases hall : zs.all mayS with
  | false =>
    rw [hall] at HPC
    obtain rfl : N = 0 := by rw [hN]; unfold walkN; rw [hall]; rfl
    obtain rfl : E = 2 := by rw [hE]; unfold walkE; rw [hall]; rfl
    clear hA hm hN hE hc1 hl hall H0
    go_enter Try.func18, Try.ntmps18
    go_wp2_with fail
    refine HPC.out.mono ?_
    rintro e w1 ⟨rfl, f1⟩
    have HF1 := Lib.hid f1
    clear f1
    go_wp2_with fail
    go_ret2
    exact ⟨rfl, HF1.out⟩
  | true =>
    rw [hall] at HPC
    have HNE : Hid (N = walkAt zs ∧ E = if walkAt zs = 0 then 0 else 9) := Lib.hid (by
      obtain ⟨_, _, hN, hE⟩ := H0.out
      rw [hN, hE]
      unfold walkN walkE
      rw [hall]
      exact ⟨rfl, rfl⟩)
    clear hA hm hN hE hc1 hl hall
    go_enter Try.func18, Try.ntmps18
    go_wp2_with fail
    refine HPC.out.mono ?_
    rintro e w1 ⟨rfl, f1⟩
    have HF1 := Lib.hid f1
    clear f1
    go_wp2_with fail
    go_loopw [4] (fun x wq => ∃ k : Nat, x = .int .i64 k ∧ 1 ≤ k ∧ k ≤ m + 1 ∧ Hid (∀ j, 0 < j → j < k → j < m → leadsS (zs.getD (j - 1) 0) (zs.getD j 0) = true) ∧ Hid (Fr (fun _ => False) w wq)) (fun x _ => m + 1 - (intOf x).toNat)
    case atStart => exact ⟨1, rfl, by omega, by omega, Lib.hid (fun j h1 h2 _ => absurd h1 (by omega)), HF1⟩
    case round =>
      obtain ⟨k, rfl, hk1, hk2, HB, HF⟩ := hrel
      by_cases hlt : k < m
      · obtain ⟨hA, hm, hN, hE⟩ := H0.out
        obtain ⟨b1, o1, rfl, hcA⟩ := hA (by omega)
        obtain ⟨p, hp⟩ : ∃ p, p = k - 1 := ⟨_, rfl⟩
        obtain ⟨z0, hz0⟩ : ∃ z, zs[p]? = some z := ⟨_, List.getElem?_eq_getElem (by omega)⟩
        obtain ⟨z1, hz1⟩ : ∃ z, zs[k]? = some z := ⟨_, List.getElem?_eq_getElem (by omega)⟩
        have HC := Lib.hid (And.intro (fun w'' (f : Fr (fun _ => False) w w'') => (f.cell (p := ⟨b1, o1 + p, none⟩) (World.block_lt_of_cell? w _ (hcA p z0 hz0)) (fun q => q)).trans (hcA p z0 hz0)) (fun w'' (f : Fr (fun _ => False) w w'') => (f.cell (p := ⟨b1, o1 + k, none⟩) (World.block_lt_of_cell? w _ (hcA k z1 hz1)) (fun q => q)).trans (hcA k z1 hz1)))
        have HI := Lib.hid (And.intro (show (k : Int) - 1 = (p : Int) by omega) (And.intro (show (0 : Int) ≤ (p : Int) by omega) (And.intro (show (p : Int) ≤ 100000 by omega) (And.intro (show (p : Int) < (m : Int) by omega) (And.intro (show (0 : Int) ≤ (k : Int) by omega) (show (k : Int) < (m : Int) by omega))))))
        have hkm : (k : Int) < (m : Int) := by omega
        have hk0 : (0 : Int) ≤ (k : Int) := by omega
        have hg0 : zs.getD (k - 1) 0 = z0 := by rw [← hp, List.getD_eq_getElem?_getD, hz0]; rfl
        have hg1 : zs.getD k 0 = z1 := by rw [List.getD_eq_getElem?_getD, hz1]; rfl
        have HLL := Lib.hid (HPL.out z0 z1)
        have HLT := Lib.hid hlt
        cases hq : leadsS z0 z1 with
        | true =>
          rw [hq] at HLL
          have HB2 : Hid (∀ j, 0 < j → j < k + 1 → j < m → leadsS (zs.getD (j - 1) 0) (zs.getD j 0) = true) := Lib.hid (fun j h1 h2 h3 => by
            rcases Nat.lt_or_ge j k with h | h
            · exact HB.out j h1 h h3
            · obtain rfl : j = k := by omega
              rw [hg0, hg1, hq])
          clear hA hm hN hE hcA hp hz0 hz1 hg0 hg1 hq hlt HB
          go_wp2_with fail
          refine wp_region_held_drew (S := fun w' => Fr (fun _ => False) w w') (by kernel_rfl) (HF.out.drew) (fun hS0 => ?_)
          refine anyH_take 0 13 (.slice (some ⟨b1, o1, none⟩) m c1) rfl rfl (by kernel_rfl) (by kernel_rfl) (by kernel_rfl) (fun _ _ _ h => h) (.inl ⟨by rfl, fun w'' hS => by go_simp⟩) hS0 ?_
          (simp only [List.setIfInBounds_toArray, List.set_cons_zero, List.set_cons_succ])
          refine anyH_take 1 14 (.int .i64 (k : Nat)) rfl rfl (by kernel_rfl) (by kernel_rfl) (by kernel_rfl) (fun _ _ _ h => h) (.inl ⟨by rfl, fun w'' hS => by go_simp⟩) hS0 ?_
          (simp only [List.setIfInBounds_toArray, List.set_cons_zero, List.set_cons_succ])
          refine anyH_take 2 15 (.int .i64 (p : Nat)) rfl rfl (by kernel_rfl) (by kernel_rfl) (by kernel_rfl) (fun _ _ _ h => h) (.inl ⟨by rfl, fun w'' hS => by have q0 := HI.out.1; have q1 := wrapI_id (z := (p : Int)) (by have := HI.out.2.1; omega) (by have := HI.out.2.2.1; omega); go_simp⟩) hS0 ?_
          (simp only [List.setIfInBounds_toArray, List.set_cons_zero, List.set_cons_succ])
          refine anyH_take 3 16 (.pointer (some ⟨b1, o1 + p, none⟩)) rfl rfl (by kernel_rfl) (by kernel_rfl) (by kernel_rfl) (fun _ _ _ h => h) (.inl ⟨by rfl, fun w'' hS => by have q0 := HI.out.2.1; have q1 := HI.out.2.2.2.1; go_simp⟩) hS0 ?_
          (simp only [List.setIfInBounds_toArray, List.set_cons_zero, List.set_cons_succ])
          refine anyH_take 4 17 (.int .i64 z0) rfl rfl (by kernel_rfl) (by kernel_rfl) (by kernel_rfl) (fun _ _ _ h => h) (.inl ⟨by rfl, fun w'' hS => by have q0 := HC.out.1 w'' hS; go_simp⟩) hS0 ?_
          (simp only [List.setIfInBounds_toArray, List.set_cons_zero, List.set_cons_succ])
          refine anyH_take 5 18 (.slice (some ⟨b1, o1, none⟩) m c1) rfl rfl (by kernel_rfl) (by kernel_rfl) (by kernel_rfl) (fun _ _ _ h => h) (.inl ⟨by rfl, fun w'' hS => by go_simp⟩) hS0 ?_
          (simp only [List.setIfInBounds_toArray, List.set_cons_zero, List.set_cons_succ])
          refine anyH_take 6 19 (.int .i64 (k : Nat)) rfl rfl (by kernel_rfl) (by kernel_rfl) (by kernel_rfl) (fun _ _ _ h => h) (.inl ⟨by rfl, fun w'' hS => by go_simp⟩) hS0 ?_
          (simp only [List.setIfInBounds_toArray, List.set_cons_zero, List.set_cons_succ])
          refine anyH_take 7 20 (.pointer (some ⟨b1, o1 + k, none⟩)) rfl rfl (by kernel_rfl) (by kernel_rfl) (by kernel_rfl) (fun _ _ _ h => h) (.inl ⟨by rfl, fun w'' hS => by have q0 := HI.out.2.2.2.2.1; have q1 := HI.out.2.2.2.2.2; go_simp⟩) hS0 ?_
          (simp only [List.setIfInBounds_toArray, List.set_cons_zero, List.set_cons_succ])
          refine anyH_take 8 21 (.int .i64 z1) rfl rfl (by kernel_rfl) (by kernel_rfl) (by kernel_rfl) (fun _ _ _ h => h) (.inl ⟨by rfl, fun w'' hS => by have q0 := HC.out.2 w'' hS; go_simp⟩) hS0 ?_
          (simp only [List.setIfInBounds_toArray, List.set_cons_zero, List.set_cons_succ])
          refine anyH_one 9 22 (.bool true) (by kernel_rfl) (tame_call 22 rfl rfl (by rfl) (fun w'' hS => by go_simp) (fun w'' hS => (HLL.out w'').mono fun e w3 he => ⟨he.1, he.2 ▸ hS⟩)) hS0 (fun wq0 hSq => ?_)
          (simp only [List.setIfInBounds_toArray, List.set_cons_zero, List.set_cons_succ])
          refine anyH_take 10 23 (.bool false) rfl rfl (by kernel_rfl) (by kernel_rfl) (by kernel_rfl) (fun _ _ _ h => h) (.inl ⟨by rfl, fun w'' hS => by go_simp⟩) hSq ?_
          (simp only [List.setIfInBounds_toArray, List.set_cons_zero, List.set_cons_succ])
          refine wpAnyH_done (by kernel_rfl) ?_ _
          have HF3 := Lib.hid hSq
          clear hSq hS0
          go_wp2_with fail
          refine ⟨⟨k + 1, by go_num, by omega, by have := HLT.out; omega, HB2, HF3⟩, ?_⟩
          simp [intOf]
          have := HLT.out
          omega
        | false =>
          rw [hq] at HLL
          have hyi : walkAt zs = k := walk_at (by omega) (by omega) (fun j h1 h2 => HB.out j h1 h2 (by omega)) (by rw [hg0, hg1, hq])
          obtain ⟨q1, q2⟩ := HNE.out
          rw [hyi] at q1 q2
          rw [if_neg (by omega)] at q2
          subst q1 q2
          clear hA hm hN hE hcA hp hz0 hz1 hg0 hg1 hq hlt HB hyi HNE H0
          go_wp2_with fail
          refine wp_region_held_drew (S := fun w' => Fr (fun _ => False) w w') (by kernel_rfl) (HF.out.drew) (fun hS0 => ?_)
          refine anyH_take 0 13 (.slice (some ⟨b1, o1, none⟩) m c1) rfl rfl (by kernel_rfl) (by kernel_rfl) (by kernel_rfl) (fun _ _ _ h => h) (.inl ⟨by rfl, fun w'' hS => by go_simp⟩) hS0 ?_
          (simp only [List.setIfInBounds_toArray, List.set_cons_zero, List.set_cons_succ])
          refine anyH_take 1 14 (.int .i64 (N : Nat)) rfl rfl (by kernel_rfl) (by kernel_rfl) (by kernel_rfl) (fun _ _ _ h => h) (.inl ⟨by rfl, fun w'' hS => by go_simp⟩) hS0 ?_
          (simp only [List.setIfInBounds_toArray, List.set_cons_zero, List.set_cons_succ])
          refine anyH_take 2 15 (.int .i64 (p : Nat)) rfl rfl (by kernel_rfl) (by kernel_rfl) (by kernel_rfl) (fun _ _ _ h => h) (.inl ⟨by rfl, fun w'' hS => by have q0 := HI.out.1; have q1 := wrapI_id (z := (p : Int)) (by have := HI.out.2.1; omega) (by have := HI.out.2.2.1; omega); go_simp⟩) hS0 ?_
          (simp only [List.setIfInBounds_toArray, List.set_cons_zero, List.set_cons_succ])
          refine anyH_take 3 16 (.pointer (some ⟨b1, o1 + p, none⟩)) rfl rfl (by kernel_rfl) (by kernel_rfl) (by kernel_rfl) (fun _ _ _ h => h) (.inl ⟨by rfl, fun w'' hS => by have q0 := HI.out.2.1; have q1 := HI.out.2.2.2.1; go_simp⟩) hS0 ?_
          (simp only [List.setIfInBounds_toArray, List.set_cons_zero, List.set_cons_succ])
          refine anyH_take 4 17 (.int .i64 z0) rfl rfl (by kernel_rfl) (by kernel_rfl) (by kernel_rfl) (fun _ _ _ h => h) (.inl ⟨by rfl, fun w'' hS => by have q0 := HC.out.1 w'' hS; go_simp⟩) hS0 ?_
          (simp only [List.setIfInBounds_toArray, List.set_cons_zero, List.set_cons_succ])
          refine anyH_take 5 18 (.slice (some ⟨b1, o1, none⟩) m c1) rfl rfl (by kernel_rfl) (by kernel_rfl) (by kernel_rfl) (fun _ _ _ h => h) (.inl ⟨by rfl, fun w'' hS => by go_simp⟩) hS0 ?_
          (simp only [List.setIfInBounds_toArray, List.set_cons_zero, List.set_cons_succ])
          refine anyH_take 6 19 (.int .i64 (N : Nat)) rfl rfl (by kernel_rfl) (by kernel_rfl) (by kernel_rfl) (fun _ _ _ h => h) (.inl ⟨by rfl, fun w'' hS => by go_simp⟩) hS0 ?_
          (simp only [List.setIfInBounds_toArray, List.set_cons_zero, List.set_cons_succ])
          refine anyH_take 7 20 (.pointer (some ⟨b1, o1 + N, none⟩)) rfl rfl (by kernel_rfl) (by kernel_rfl) (by kernel_rfl) (fun _ _ _ h => h) (.inl ⟨by rfl, fun w'' hS => by have q0 := HI.out.2.2.2.2.1; have q1 := HI.out.2.2.2.2.2; go_simp⟩) hS0 ?_
          (simp only [List.setIfInBounds_toArray, List.set_cons_zero, List.set_cons_succ])
          refine anyH_take 8 21 (.int .i64 z1) rfl rfl (by kernel_rfl) (by kernel_rfl) (by kernel_rfl) (fun _ _ _ h => h) (.inl ⟨by rfl, fun w'' hS => by have q0 := HC.out.2 w'' hS; go_simp⟩) hS0 ?_
          (simp only [List.setIfInBounds_toArray, List.set_cons_zero, List.set_cons_succ])
          refine anyH_one 9 22 (.bool false) (by kernel_rfl) (tame_call 22 rfl rfl (by rfl) (fun w'' hS => by go_simp) (fun w'' hS => (HLL.out w'').mono fun e w3 he => ⟨he.1, he.2 ▸ hS⟩)) hS0 (fun wq0 hSq => ?_)
          (simp only [List.setIfInBounds_toArray, List.set_cons_zero, List.set_cons_succ])
          refine anyH_take 10 23 (.bool true) rfl rfl (by kernel_rfl) (by kernel_rfl) (by kernel_rfl) (fun _ _ _ h => h) (.inl ⟨by rfl, fun w'' hS => by go_simp⟩) hSq ?_
          (simp only [List.setIfInBounds_toArray, List.set_cons_zero, List.set_cons_succ])
          refine wpAnyH_done (by kernel_rfl) ?_ _
          have HF3 := Lib.hid hSq
          clear hSq hS0
          go_wp2_with fail
          go_ret2
          exact ⟨rfl, HF3.out⟩
      · obtain ⟨hA, hm, hN, hE⟩ := H0.out
        have hyi : walkAt zs = 0 := walk_none (fun j h1 h2 => HB.out j h1 (by omega) (by omega))
        obtain ⟨q1, q2⟩ := HNE.out
        rw [hyi] at q1 q2
        rw [if_pos rfl] at q2
        subst q1 q2
        have hii : ¬ (k : Int) < (m : Int) := by omega
        clear hA hm hN hE hlt HB hyi HNE H0
        go_wp2_with fail
        go_ret2
        exact ⟨rfl, HF.out⟩
end Go.Proofs.Ythffnepfnadakaa
