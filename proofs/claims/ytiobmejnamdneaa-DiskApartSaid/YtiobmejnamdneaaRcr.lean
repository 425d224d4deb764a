/- The document's disk: Crash. -/
import Derived.Test.YtiobmejnamdneaaRlf
namespace Go.Proofs.Ytiobmejnamdneaa
open Go.RowKit Go.Maps

def RD.left1 (r : RD) (p : Nat × Int) : RD := { r with V := r.V.set p.1 [leftL (r.V.getD p.1 []) (pickN (r.V.getD p.1 []).length p.2)] }
def RD.falls (r : RD) (ps : List (Nat × Int)) : RD := ps.foldl RD.left1 r
def RD.pairs (r : RD) (picks : List Int) : List (Nat × Int) := r.openL.zipIdx.map fun p => (p.1, (picks[p.2]?).getD 0)
def RD.crash (r : RD) (picks : List Int) : RD := { r.falls (r.pairs picks) with left := -1, dead := false }
theorem rfalls_snoc (r : RD) (ps : List (Nat × Int)) (p : Nat × Int) : r.falls (ps ++ [p]) = (r.falls ps).left1 p := by simp [RD.falls]
theorem rfalls_len : ∀ (ps : List (Nat × Int)) (r : RD), (r.falls ps).V.length = r.V.length
  | [], _ => rfl
  | p :: ps, r => by
    show ((r.left1 p).falls ps).V.length = _
    rw [rfalls_len ps]
    simp [RD.left1]
theorem rpairs_len (r : RD) (picks : List Int) : (r.pairs picks).length = r.openL.length := by simp [RD.pairs]
theorem rpairs_at (r : RD) (picks : List Int) {k : Nat} (hk : k < r.openL.length) : (r.pairs picks)[k]? = some (r.openL[k], (picks[k]?).getD 0) := by
  simp [RD.pairs, hk]
section
variable {w : World} {g : Nat} {v : Value} {vs : List Value} {r : RD}
set_option maxRecDepth 100000 in
set_option maxHeartbeats 4000000 in
theorem rcrash_any (h : RefW w g v vs r) (hn : 0 < r.V.length) (hn8 : r.V.length ≤ 8192) (hN : ∀ (i : Nat) ss, r.V[i]? = some ss → ss.length ≤ 10000) {vp : Value} {picks : List Int} (hp : IntsAt w vp picks) (hpF : ∀ b, vp.ownBlock = some b → 0 < picks.length → b ≠ g ∧ v.ownBlock ≠ some b)
    (hpz : ∀ z ∈ picks, -9223372036854775808 ≤ z ∧ z ≤ 9223372036854775807) :
    Calls Try.prog 26 #[.pointer (some ⟨g, 0, none⟩), vp] w fun e w' => e = .returned (.tuple #[]) ∧ (∃ vs', RefW w' g v vs' (r.crash picks) ∧ ∀ b, RIn g v vs' b → RIn g v vs b ∨ w.heap.size ≤ b) ∧ Fr (fun b => b = g ∨ v.ownBlock = some b) w w' := by
  have HO := ropen_any h (by omega)
  obtain ⟨Ap, cp, hvp, hpl, hpc⟩ := hp
  subst hvp
  obtain ⟨n, hne⟩ : ∃ n, n = r.V.length := ⟨_, rfl⟩
  rw [← hne] at hn hn8
  obtain ⟨RB, c, cur0, hv, hb0, _, _, _, _⟩ := h.form (by omega)
  have hvn : v = .slice (some ⟨RB, 0, none⟩) n c := by rw [hv, hne]
  have hgR0 : g ≠ RB := fun e => h.g_row (by rw [hv, e]; rfl)
  have H0 := Lib.hid (And.intro hne (And.intro h (And.intro hN (And.intro hpF (And.intro hpc (And.intro hpz (And.intro hb0.lt hgR0)))))))
  have HVN := Lib.hid hvn
  have hpl' : picks.length ≤ 9223372036854775807 := by simp only [maxLen] at hpl; omega
  clear h hN hpF hpz hpl hpc hv hvn hne hb0 hgR0
  go_enter Try.func26, Try.ntmps26
  go_wp2_with fail
  refine HO.mono ?_
  rintro e w1 ⟨lv, rfl, hrow, f1⟩
  have hz : (asZ r.openL).length = r.openL.length := by simp
  rw [← hz] at hrow
  have hoi := IntsAt.own hrow
  have hob : ∀ b, lv.ownBlock = some b → w.heap.size ≤ b := fun b hb => own_base hrow hb
  obtain ⟨Ao, co, hlv, hol, hoc⟩ := hoi
  subst hlv
  obtain ⟨N, hNe⟩ : ∃ N, N = r.openL.length := ⟨_, rfl⟩
  rw [hz, ← hNe] at hol hoc ⊢
  have hN8 : N ≤ 8192 := by
    have h1 : r.openL.length ≤ r.V.length := openTo_len r _
    have := H0.out.1
    omega
  have HO1 := Lib.hid (And.intro hNe (And.intro hoc (And.intro hob f1)))
  have H1 : Hid (RefW w1 g v vs r) := Lib.hid (H0.out.2.1.keep f1 (fun _ _ q => q))
  clear hrow hz hol hoc hob hNe HO f1
  go_wp2_with fail
  go_loopw [5] (fun x wr => ∃ k : Nat, x = .int .i64 k ∧ k ≤ N ∧ Hid (∃ vs', RefW wr g v vs' (r.falls ((r.pairs picks).take k)) ∧ (∀ (i : Nat) ss, (r.falls ((r.pairs picks).take k)).V[i]? = some ss → ss.length ≤ 10000) ∧ ∀ b, RIn g v vs' b → RIn g v vs b ∨ w.heap.size ≤ b) ∧ Hid (Fr (fun b => b = RB) w1 wr)) (fun x _ => N - (intOf x).toNat)
  case atStart => exact ⟨0, rfl, Nat.zero_le _, Lib.hid ⟨vs, H1.out, H0.out.2.2.1, fun b hb => .inl hb⟩, Lib.hid (Fr.refl _ _)⟩
  case round =>
    obtain ⟨k, rfl, hk, HR, HF⟩ := hrel
    clear H1
    obtain ⟨vs1, hR, hN1, hin1⟩ := HR.out
    clear HR
    obtain ⟨rk, hrk⟩ : ∃ rk, rk = r.falls ((r.pairs picks).take k) := ⟨_, rfl⟩
    rw [← hrk] at hR hN1
    have hlen : rk.V.length = n := by rw [hrk, rfalls_len]; exact H0.out.1.symm
    by_cases hlt : k < N
    · have hkl : k < r.openL.length := by have := HO1.out.1; omega
      obtain ⟨i, hi⟩ : ∃ i, i = r.openL[k] := ⟨_, rfl⟩
      obtain ⟨pick, hpk⟩ : ∃ pick, pick = (picks[k]?).getD 0 := ⟨_, rfl⟩
      have hin : i < n := by
        have h1 : i ∈ r.openL := hi ▸ List.getElem_mem hkl
        unfold RD.openL RD.openTo at h1
        have h2 := List.mem_range.1 (List.mem_filter.1 h1).1
        have := H0.out.1
        omega
      have hnx : r.falls ((r.pairs picks).take (k + 1)) = rk.left1 (i, pick) := by
        rw [List.take_add_one, rpairs_at r picks hkl, Option.toList_some, rfalls_snoc, hrk, hi, hpk]
      obtain ⟨ss, hss⟩ : ∃ ss, rk.V[i]? = some ss := ⟨_, List.getElem?_eq_getElem (by omega)⟩
      have hsg : rk.V.getD i [] = ss := by rw [List.getD_eq_getElem?_getD, hss]; rfl
      obtain ⟨z, hz⟩ : ∃ z, z = leftL ss (pickN ss.length pick) := ⟨_, rfl⟩
      have hnx2 : rk.left1 (i, pick) = { rk with V := rk.V.set i [z] } := by
        unfold RD.left1
        simp only [hsg, hz]
      rw [hnx2] at hnx
      obtain ⟨RB', c', cur, hv, hb, hnc, hcm, hcs, htk⟩ := hR.form (by omega)
      obtain rfl : RB' = RB := by
        have h1 := HVN.out
        rw [hv] at h1
        injection h1 with h1
        injection h1 with h1
        injection h1
      obtain ⟨x, hx, hrow, hne2, hall⟩ := hR.at_ hss
      have h0s : 0 < ss.length := List.length_pos_iff.2 hne2
      have hzl : z.length = 128 := by rw [hz]; exact leftL_len hall h0s pick
      have HS := Lib.hid hzl
      have hpb : -9223372036854775808 ≤ pick ∧ pick ≤ 9223372036854775807 := by
        rw [hpk]
        cases hq : picks[k]? with
        | none => simp
        | some y => exact H0.out.2.2.2.2.2.1 y (List.mem_of_getElem? hq)
      have hLf : Calls Try.prog 38 #[x, .int .i64 pick] wr.drew fun e w' => e = .returned (av z) ∧ Fr (fun _ => False) wr.drew w' := hz ▸ rleft_any (w := wr.drew) (secV_row hrow hall) h0s (hN1 i ss hss) hpb.1 hpb.2
      have cg : wr.cell? ⟨g, 0, none⟩ = some (.slice (some ⟨RB', 0, none⟩) n c) := (hR.blk.cell 0).trans (by rw [HVN.out]; rfl)
      have HX : Hid (wr.cell? ⟨RB', i, none⟩ = some x ∧ wr.frozen? ⟨RB', i, none⟩ = false ∧ RB' < wr.heap.size) := Lib.hid ⟨row_at hb htk hx, hb.frozen i, hb.lt⟩
      obtain ⟨Ax, cx, hxe, _, _⟩ := own_slice hrow
      obtain ⟨lb, lo, hAo, hlc⟩ := HO1.out.2.1 (by omega)
      have hlb : w.heap.size ≤ lb := HO1.out.2.2.1 lb (by rw [hAo]; rfl)
      subst hAo
      have cl1 : w1.cell? ⟨lb, lo + k, none⟩ = some (.int .i64 (i : Nat)) := hlc k (i : Int) (by rw [List.getElem?_map, List.getElem?_eq_getElem hkl, hi]; rfl)
      have hlR : lb ≠ RB' := by have := H0.out.2.2.2.2.2.2.1; omega
      have cl : wr.cell? ⟨lb, lo + k, none⟩ = some (.int .i64 (i : Nat)) := (HF.out.cell (World.block_lt_of_cell? w1 _ cl1) hlR).trans cl1
      have HC : Hid (∀ w', Fr (fun b => b = RB') wr w' → w'.cell? ⟨g, 0, none⟩ = some (.slice (some ⟨RB', 0, none⟩) n c) ∧ w'.cell? ⟨lb, lo + k, none⟩ = some (.int .i64 (i : Nat))) := Lib.hid fun w' f => ⟨(f.cell (World.block_lt_of_cell? wr _ cg) H0.out.2.2.2.2.2.2.2).trans cg, (f.cell (World.block_lt_of_cell? wr _ cl) hlR).trans cl⟩
      have HSet : Hid (∀ w2, Fr (fun _ => False) wr w2 → ∀ x', w2.ownsRow 0 31 128 x' 1 (cellsB z) → RefW (w2.setCell ⟨RB', i, none⟩ x') g v (vs1.set i x') (r.falls ((r.pairs picks).take (k + 1))) ∧ Fr (fun b => b = RB') wr (w2.setCell ⟨RB', i, none⟩ x')) := Lib.hid fun w2 f x' hx' => by
        rw [hnx]
        exact hR.setEl (i := i) (by omega) hv hb hnc hcm hcs htk f (ss' := [z]) (by simpa using hx') (by simp) (fun y hy => by rw [List.mem_singleton.1 hy]; exact HS.out)
      have HP : Hid (∀ (j : Nat) ss, (r.falls ((r.pairs picks).take (k + 1))).V[j]? = some ss → ss.length ≤ 10000) := Lib.hid fun j ss2 hj => by
        rw [hnx] at hj
        have hj' : (rk.V.set i [z])[j]? = some ss2 := hj
        by_cases e : i = j
        · subst e
          rw [List.getElem?_set_self (by omega)] at hj'
          injection hj' with hj'
          rw [← hj']
          simp
        · rw [List.getElem?_set_ne e] at hj'
          exact hN1 j ss2 hj'
      have HI := Lib.hid hin1
      have HXE := Lib.hid hxe
      have hki : (k : Int) < (N : Int) := by omega
      have hk0 : (0 : Int) ≤ (k : Int) := by omega
      have hi0 : (0 : Int) ≤ (i : Int) := by omega
      have hi1 : (i : Int) < (n : Int) := by omega
      have HPK := Lib.hid hpk
      have HL1 := Lib.hid (And.intro cl1 hlb)
      clear hkl hi hin hnx hnx2 hss hsg hz hv hb hnc hcm hcs htk hx hrow hne2 hall h0s hzl hpb hxe hlc cl1 hlb hlR hlen hin1 hN1 hR hrk hpk hk cg cl
      by_cases hkp : (k : Int) < (picks.length : Int)
      · obtain ⟨bp, op, hap, hpc⟩ := H0.out.2.2.2.2.1 (by omega)
        subst hap
        have hcp : wr.cell? ⟨bp, op + k, none⟩ = some (.int .i64 pick) := by
          have h1 := hpc k pick (by rw [HPK.out, List.getElem?_eq_getElem (by omega)]; rfl)
          have h2 := (HO1.out.2.2.2.cell (World.block_lt_of_cell? w _ h1) (fun q => q)).trans h1
          refine (HF.out.cell (World.block_lt_of_cell? w1 _ h2) ?_).trans h2
          intro q
          have q' : bp = RB' := q
          exact (H0.out.2.2.2.1 bp rfl (by omega)).2 (by rw [HVN.out, q']; rfl)
        clear hpc
        go_wp2_with fail
        refine wp_region_held_drew (S := fun w' => Fr (fun b => b = RB') wr w') (by kernel_rfl) ((Fr.refl _ _).drew) (fun hS0 => ?_)
        refine anyH_take 0 23 (.pointer (some ⟨g, 0, none⟩)) rfl rfl (by kernel_rfl) (by kernel_rfl) (by kernel_rfl) (fun _ _ _ h => h) (.inl ⟨by rfl, fun w'' hS => by go_simp⟩) hS0 ?_
        (simp only [List.setIfInBounds_toArray, List.set_cons_zero, List.set_cons_succ])
        refine anyH_take 1 24 (.pointer (some ⟨g, 0, none⟩)) rfl rfl (by kernel_rfl) (by kernel_rfl) (by kernel_rfl) (fun _ _ _ h => h) (.inl ⟨by rfl, fun w'' hS => by go_simp⟩) hS0 ?_
        (simp only [List.setIfInBounds_toArray, List.set_cons_zero, List.set_cons_succ])
        refine anyH_take 2 25 (.pointer (some ⟨g, 0, none⟩)) rfl rfl (by kernel_rfl) (by kernel_rfl) (by kernel_rfl) (fun _ _ _ h => h) (.inl ⟨by rfl, fun w'' hS => by go_simp⟩) hS0 ?_
        (simp only [List.setIfInBounds_toArray, List.set_cons_zero, List.set_cons_succ])
        refine anyH_take 3 26 (.slice (some ⟨RB', 0, none⟩) n c) rfl rfl (by kernel_rfl) (by kernel_rfl) (by kernel_rfl) (fun _ _ _ h => h) (.inl ⟨by rfl, fun w'' hS => by have q0 := (HC.out w'' hS).1; go_simp⟩) hS0 ?_
        (simp only [List.setIfInBounds_toArray, List.set_cons_zero, List.set_cons_succ])
        refine anyH_take 4 27 (.slice (some ⟨lb, lo, none⟩) N co) rfl rfl (by kernel_rfl) (by kernel_rfl) (by kernel_rfl) (fun _ _ _ h => h) (.inl ⟨by rfl, fun w'' hS => by go_simp⟩) hS0 ?_
        (simp only [List.setIfInBounds_toArray, List.set_cons_zero, List.set_cons_succ])
        refine anyH_take 5 28 (.int .i64 (k : Nat)) rfl rfl (by kernel_rfl) (by kernel_rfl) (by kernel_rfl) (fun _ _ _ h => h) (.inl ⟨by rfl, fun w'' hS => by go_simp⟩) hS0 ?_
        (simp only [List.setIfInBounds_toArray, List.set_cons_zero, List.set_cons_succ])
        refine anyH_take 6 29 (.pointer (some ⟨lb, lo + k, none⟩)) rfl rfl (by kernel_rfl) (by kernel_rfl) (by kernel_rfl) (fun _ _ _ h => h) (.inl ⟨by rfl, fun w'' hS => by go_simp⟩) hS0 ?_
        (simp only [List.setIfInBounds_toArray, List.set_cons_zero, List.set_cons_succ])
        refine anyH_take 7 30 (.int .i64 (i : Nat)) rfl rfl (by kernel_rfl) (by kernel_rfl) (by kernel_rfl) (fun _ _ _ h => h) (.inl ⟨by rfl, fun w'' hS => by have q0 := (HC.out w'' hS).2; go_simp⟩) hS0 ?_
        (simp only [List.setIfInBounds_toArray, List.set_cons_zero, List.set_cons_succ])
        refine anyH_take 8 31 (.pointer (some ⟨g, 0, none⟩)) rfl rfl (by kernel_rfl) (by kernel_rfl) (by kernel_rfl) (fun _ _ _ h => h) (.inl ⟨by rfl, fun w'' hS => by go_simp⟩) hS0 ?_
        (simp only [List.setIfInBounds_toArray, List.set_cons_zero, List.set_cons_succ])
        refine anyH_take 9 32 (.pointer (some ⟨g, 0, none⟩)) rfl rfl (by kernel_rfl) (by kernel_rfl) (by kernel_rfl) (fun _ _ _ h => h) (.inl ⟨by rfl, fun w'' hS => by go_simp⟩) hS0 ?_
        (simp only [List.setIfInBounds_toArray, List.set_cons_zero, List.set_cons_succ])
        refine anyH_take 10 33 (.pointer (some ⟨g, 0, none⟩)) rfl rfl (by kernel_rfl) (by kernel_rfl) (by kernel_rfl) (fun _ _ _ h => h) (.inl ⟨by rfl, fun w'' hS => by go_simp⟩) hS0 ?_
        (simp only [List.setIfInBounds_toArray, List.set_cons_zero, List.set_cons_succ])
        refine anyH_take 11 34 (.slice (some ⟨RB', 0, none⟩) n c) rfl rfl (by kernel_rfl) (by kernel_rfl) (by kernel_rfl) (fun _ _ _ h => h) (.inl ⟨by rfl, fun w'' hS => by have q0 := (HC.out w'' hS).1; go_simp⟩) hS0 ?_
        (simp only [List.setIfInBounds_toArray, List.set_cons_zero, List.set_cons_succ])
        refine anyH_take 12 35 (.slice (some ⟨lb, lo, none⟩) N co) rfl rfl (by kernel_rfl) (by kernel_rfl) (by kernel_rfl) (fun _ _ _ h => h) (.inl ⟨by rfl, fun w'' hS => by go_simp⟩) hS0 ?_
        (simp only [List.setIfInBounds_toArray, List.set_cons_zero, List.set_cons_succ])
        refine anyH_take 13 36 (.int .i64 (k : Nat)) rfl rfl (by kernel_rfl) (by kernel_rfl) (by kernel_rfl) (fun _ _ _ h => h) (.inl ⟨by rfl, fun w'' hS => by go_simp⟩) hS0 ?_
        (simp only [List.setIfInBounds_toArray, List.set_cons_zero, List.set_cons_succ])
        refine anyH_take 14 37 (.pointer (some ⟨lb, lo + k, none⟩)) rfl rfl (by kernel_rfl) (by kernel_rfl) (by kernel_rfl) (fun _ _ _ h => h) (.inl ⟨by rfl, fun w'' hS => by go_simp⟩) hS0 ?_
        (simp only [List.setIfInBounds_toArray, List.set_cons_zero, List.set_cons_succ])
        refine anyH_take 15 38 (.int .i64 (i : Nat)) rfl rfl (by kernel_rfl) (by kernel_rfl) (by kernel_rfl) (fun _ _ _ h => h) (.inl ⟨by rfl, fun w'' hS => by have q0 := (HC.out w'' hS).2; go_simp⟩) hS0 ?_
        (simp only [List.setIfInBounds_toArray, List.set_cons_zero, List.set_cons_succ])
        refine anyH_take 16 39 (.pointer (some ⟨RB', i, none⟩)) rfl rfl (by kernel_rfl) (by kernel_rfl) (by kernel_rfl) (fun _ _ _ h => h) (.inl ⟨by rfl, fun w'' hS => by go_simp⟩) hS0 ?_
        (simp only [List.setIfInBounds_toArray, List.set_cons_zero, List.set_cons_succ])
        refine anyH_take 18 41 (.int .i64 pick) rfl rfl (by kernel_rfl) (by kernel_rfl) (by kernel_rfl) (fun _ _ _ h => h) (.inl ⟨by rfl, fun w'' hS => by go_simp⟩) hS0 ?_
        (simp only [List.setIfInBounds_toArray, List.set_cons_zero, List.set_cons_succ])
        refine anyH_value 17 40 x wr.drew (by kernel_rfl) rfl rfl (by rfl) (by have q0 : wr.cell? ⟨RB', i, none⟩ = some x := HX.out.1; rw [HXE.out] at q0; rw [HXE.out]; go_simp) hS0 ?_
        (simp only [List.setIfInBounds_toArray, List.set_cons_zero, List.set_cons_succ])
        refine anyH_enter 19 42 (f := 38) (args := #[x, .int .i64 pick]) (by kernel_rfl) rfl rfl (by rfl) (by go_simp) ?_
        refine hLf.mono ?_
        rintro e w3 ⟨rfl, f3⟩
        have f3' : Fr (fun _ => False) wr w3 := ((Fr.refl (fun _ => False) wr).drew).trans f3 (fun _ _ q => q)
        refine ⟨av z, rfl, f3'.mono (fun _ _ q => q.elim), ?_⟩
        (simp only [List.setIfInBounds_toArray, List.set_cons_zero, List.set_cons_succ])
        have f4 : Fr (fun _ => False) wr (w3.alloc (.cells (cellsB z).toArray 31)) := f3'.alloc _
        have hS4 : Fr (fun b => b = RB') wr (w3.alloc (.cells (cellsB z).toArray 31)) := f4.mono (fun _ _ q => q.elim)
        refine anyH_value 20 43 (.slice (some ⟨w3.heap.size, 0, none⟩) 1 1) (w3.alloc (.cells (cellsB z).toArray 31)) (by kernel_rfl) rfl rfl (by rfl) (run_build_op _ rfl HS.out rfl) hS4 ?_
        (simp only [List.setIfInBounds_toArray, List.set_cons_zero, List.set_cons_succ])
        refine anyH_take 21 44 (.pointer (some ⟨RB', i, none⟩)) rfl rfl (by kernel_rfl) (by kernel_rfl) (by kernel_rfl) (fun _ _ _ h => h) (.inl ⟨by rfl, fun w'' hS => by go_simp⟩) hS4 ?_
        (simp only [List.setIfInBounds_toArray, List.set_cons_zero, List.set_cons_succ])
        have q0 : (w3.alloc (.cells (cellsB z).toArray 31)).cell? ⟨RB', i, none⟩ = some x := (f4.cell (p := ⟨RB', i, none⟩) HX.out.2.2 (fun q => q)).trans HX.out.1
        have q1 : (w3.alloc (.cells (cellsB z).toArray 31)).frozen? ⟨RB', i, none⟩ = false := (f4.frozen (p := ⟨RB', i, none⟩) HX.out.2.2 (fun q => q)).trans HX.out.2.1
        obtain ⟨hE1, hE2⟩ := HSet.out _ f4 (.slice (some ⟨w3.heap.size, 0, none⟩) 1 1) (own_one (Blk.new w3 31 (cellsB z).toArray) HS.out)
        have HE := Lib.hid (And.intro hE1 (And.intro hE2 f3'.size))
        refine anyH_skip 22 ((w3.alloc (.cells (cellsB z).toArray 31)).setCell ⟨RB', i, none⟩ (.slice (some ⟨w3.heap.size, 0, none⟩) 1 1)) (by kernel_rfl) rfl rfl (by rfl) (by rw [HXE.out] at q0; go_simp) hE2 ?_
        refine wpAnyH_done (by kernel_rfl) ?_ _
        obtain ⟨bn, hbn⟩ : ∃ bn, bn = w3.heap.size := ⟨_, rfl⟩
        rw [← hbn] at HE hE1 hE2 ⊢
        have HBn := Lib.hid hbn
        generalize (w3.alloc (.cells (cellsB z).toArray 31)).setCell ⟨RB', i, none⟩ (.slice (some ⟨bn, 0, none⟩) 1 1) = w5 at *
        have HFn : Hid (Fr (fun b => b = RB') w1 w5) := Lib.hid (HF.out.trans HE.out.2.1 (fun _ _ q => q))
        have HIn : Hid (∀ b, RIn g v (vs1.set i (.slice (some ⟨bn, 0, none⟩) 1 1)) b → RIn g v vs b ∨ w.heap.size ≤ b) := Lib.hid fun b hb => by
          rcases rin_set (n := w.heap.size) (fun q => by
            have e : bn = b := by simpa [Value.ownBlock] using q
            have h1 := HE.out.2.2
            have h2 := HF.out.size
            have h3 := HBn.out
            have h4 := HO1.out.2.2.2.size
            omega) hb with q | q
          · exact HI.out b q
          · exact .inr q
        clear hE1 hE2 q0 q1 f4 hS4 f3 f3' hLf HC HSet hbn
        go_wp2_with fail
        exact ⟨⟨k + 1, by go_num, by omega, Lib.hid ⟨_, HE.out.1, HP.out, HIn.out⟩, HFn⟩, by simp [intOf]; omega⟩
      · have hpk0 : pick = 0 := by rw [HPK.out, List.getElem?_eq_none (by omega)]; rfl
        subst hpk0
        go_wp2_with fail
        refine wp_region_held_drew (S := fun w' => Fr (fun b => b = RB') wr w') (by kernel_rfl) ((Fr.refl _ _).drew) (fun hS0 => ?_)
        refine anyH_take 0 23 (.pointer (some ⟨g, 0, none⟩)) rfl rfl (by kernel_rfl) (by kernel_rfl) (by kernel_rfl) (fun _ _ _ h => h) (.inl ⟨by rfl, fun w'' hS => by go_simp⟩) hS0 ?_
        (simp only [List.setIfInBounds_toArray, List.set_cons_zero, List.set_cons_succ])
        refine anyH_take 1 24 (.pointer (some ⟨g, 0, none⟩)) rfl rfl (by kernel_rfl) (by kernel_rfl) (by kernel_rfl) (fun _ _ _ h => h) (.inl ⟨by rfl, fun w'' hS => by go_simp⟩) hS0 ?_
        (simp only [List.setIfInBounds_toArray, List.set_cons_zero, List.set_cons_succ])
        refine anyH_take 2 25 (.pointer (some ⟨g, 0, none⟩)) rfl rfl (by kernel_rfl) (by kernel_rfl) (by kernel_rfl) (fun _ _ _ h => h) (.inl ⟨by rfl, fun w'' hS => by go_simp⟩) hS0 ?_
        (simp only [List.setIfInBounds_toArray, List.set_cons_zero, List.set_cons_succ])
        refine anyH_take 3 26 (.slice (some ⟨RB', 0, none⟩) n c) rfl rfl (by kernel_rfl) (by kernel_rfl) (by kernel_rfl) (fun _ _ _ h => h) (.inl ⟨by rfl, fun w'' hS => by have q0 := (HC.out w'' hS).1; go_simp⟩) hS0 ?_
        (simp only [List.setIfInBounds_toArray, List.set_cons_zero, List.set_cons_succ])
        refine anyH_take 4 27 (.slice (some ⟨lb, lo, none⟩) N co) rfl rfl (by kernel_rfl) (by kernel_rfl) (by kernel_rfl) (fun _ _ _ h => h) (.inl ⟨by rfl, fun w'' hS => by go_simp⟩) hS0 ?_
        (simp only [List.setIfInBounds_toArray, List.set_cons_zero, List.set_cons_succ])
        refine anyH_take 5 28 (.int .i64 (k : Nat)) rfl rfl (by kernel_rfl) (by kernel_rfl) (by kernel_rfl) (fun _ _ _ h => h) (.inl ⟨by rfl, fun w'' hS => by go_simp⟩) hS0 ?_
        (simp only [List.setIfInBounds_toArray, List.set_cons_zero, List.set_cons_succ])
        refine anyH_take 6 29 (.pointer (some ⟨lb, lo + k, none⟩)) rfl rfl (by kernel_rfl) (by kernel_rfl) (by kernel_rfl) (fun _ _ _ h => h) (.inl ⟨by rfl, fun w'' hS => by go_simp⟩) hS0 ?_
        (simp only [List.setIfInBounds_toArray, List.set_cons_zero, List.set_cons_succ])
        refine anyH_take 7 30 (.int .i64 (i : Nat)) rfl rfl (by kernel_rfl) (by kernel_rfl) (by kernel_rfl) (fun _ _ _ h => h) (.inl ⟨by rfl, fun w'' hS => by have q0 := (HC.out w'' hS).2; go_simp⟩) hS0 ?_
        (simp only [List.setIfInBounds_toArray, List.set_cons_zero, List.set_cons_succ])
        refine anyH_take 8 31 (.pointer (some ⟨g, 0, none⟩)) rfl rfl (by kernel_rfl) (by kernel_rfl) (by kernel_rfl) (fun _ _ _ h => h) (.inl ⟨by rfl, fun w'' hS => by go_simp⟩) hS0 ?_
        (simp only [List.setIfInBounds_toArray, List.set_cons_zero, List.set_cons_succ])
        refine anyH_take 9 32 (.pointer (some ⟨g, 0, none⟩)) rfl rfl (by kernel_rfl) (by kernel_rfl) (by kernel_rfl) (fun _ _ _ h => h) (.inl ⟨by rfl, fun w'' hS => by go_simp⟩) hS0 ?_
        (simp only [List.setIfInBounds_toArray, List.set_cons_zero, List.set_cons_succ])
        refine anyH_take 10 33 (.pointer (some ⟨g, 0, none⟩)) rfl rfl (by kernel_rfl) (by kernel_rfl) (by kernel_rfl) (fun _ _ _ h => h) (.inl ⟨by rfl, fun w'' hS => by go_simp⟩) hS0 ?_
        (simp only [List.setIfInBounds_toArray, List.set_cons_zero, List.set_cons_succ])
        refine anyH_take 11 34 (.slice (some ⟨RB', 0, none⟩) n c) rfl rfl (by kernel_rfl) (by kernel_rfl) (by kernel_rfl) (fun _ _ _ h => h) (.inl ⟨by rfl, fun w'' hS => by have q0 := (HC.out w'' hS).1; go_simp⟩) hS0 ?_
        (simp only [List.setIfInBounds_toArray, List.set_cons_zero, List.set_cons_succ])
        refine anyH_take 12 35 (.slice (some ⟨lb, lo, none⟩) N co) rfl rfl (by kernel_rfl) (by kernel_rfl) (by kernel_rfl) (fun _ _ _ h => h) (.inl ⟨by rfl, fun w'' hS => by go_simp⟩) hS0 ?_
        (simp only [List.setIfInBounds_toArray, List.set_cons_zero, List.set_cons_succ])
        refine anyH_take 13 36 (.int .i64 (k : Nat)) rfl rfl (by kernel_rfl) (by kernel_rfl) (by kernel_rfl) (fun _ _ _ h => h) (.inl ⟨by rfl, fun w'' hS => by go_simp⟩) hS0 ?_
        (simp only [List.setIfInBounds_toArray, List.set_cons_zero, List.set_cons_succ])
        refine anyH_take 14 37 (.pointer (some ⟨lb, lo + k, none⟩)) rfl rfl (by kernel_rfl) (by kernel_rfl) (by kernel_rfl) (fun _ _ _ h => h) (.inl ⟨by rfl, fun w'' hS => by go_simp⟩) hS0 ?_
        (simp only [List.setIfInBounds_toArray, List.set_cons_zero, List.set_cons_succ])
        refine anyH_take 15 38 (.int .i64 (i : Nat)) rfl rfl (by kernel_rfl) (by kernel_rfl) (by kernel_rfl) (fun _ _ _ h => h) (.inl ⟨by rfl, fun w'' hS => by have q0 := (HC.out w'' hS).2; go_simp⟩) hS0 ?_
        (simp only [List.setIfInBounds_toArray, List.set_cons_zero, List.set_cons_succ])
        refine anyH_take 16 39 (.pointer (some ⟨RB', i, none⟩)) rfl rfl (by kernel_rfl) (by kernel_rfl) (by kernel_rfl) (fun _ _ _ h => h) (.inl ⟨by rfl, fun w'' hS => by go_simp⟩) hS0 ?_
        (simp only [List.setIfInBounds_toArray, List.set_cons_zero, List.set_cons_succ])
        refine anyH_take 18 41 (.int .i64 0) rfl rfl (by kernel_rfl) (by kernel_rfl) (by kernel_rfl) (fun _ _ _ h => h) (.inl ⟨by rfl, fun w'' hS => by go_simp⟩) hS0 ?_
        (simp only [List.setIfInBounds_toArray, List.set_cons_zero, List.set_cons_succ])
        refine anyH_value 17 40 x wr.drew (by kernel_rfl) rfl rfl (by rfl) (by have q0 : wr.cell? ⟨RB', i, none⟩ = some x := HX.out.1; rw [HXE.out] at q0; rw [HXE.out]; go_simp) hS0 ?_
        (simp only [List.setIfInBounds_toArray, List.set_cons_zero, List.set_cons_succ])
        refine anyH_enter 19 42 (f := 38) (args := #[x, .int .i64 0]) (by kernel_rfl) rfl rfl (by rfl) (by go_simp) ?_
        refine hLf.mono ?_
        rintro e w3 ⟨rfl, f3⟩
        have f3' : Fr (fun _ => False) wr w3 := ((Fr.refl (fun _ => False) wr).drew).trans f3 (fun _ _ q => q)
        refine ⟨av z, rfl, f3'.mono (fun _ _ q => q.elim), ?_⟩
        (simp only [List.setIfInBounds_toArray, List.set_cons_zero, List.set_cons_succ])
        have f4 : Fr (fun _ => False) wr (w3.alloc (.cells (cellsB z).toArray 31)) := f3'.alloc _
        have hS4 : Fr (fun b => b = RB') wr (w3.alloc (.cells (cellsB z).toArray 31)) := f4.mono (fun _ _ q => q.elim)
        refine anyH_value 20 43 (.slice (some ⟨w3.heap.size, 0, none⟩) 1 1) (w3.alloc (.cells (cellsB z).toArray 31)) (by kernel_rfl) rfl rfl (by rfl) (run_build_op _ rfl HS.out rfl) hS4 ?_
        (simp only [List.setIfInBounds_toArray, List.set_cons_zero, List.set_cons_succ])
        refine anyH_take 21 44 (.pointer (some ⟨RB', i, none⟩)) rfl rfl (by kernel_rfl) (by kernel_rfl) (by kernel_rfl) (fun _ _ _ h => h) (.inl ⟨by rfl, fun w'' hS => by go_simp⟩) hS4 ?_
        (simp only [List.setIfInBounds_toArray, List.set_cons_zero, List.set_cons_succ])
        have q0 : (w3.alloc (.cells (cellsB z).toArray 31)).cell? ⟨RB', i, none⟩ = some x := (f4.cell (p := ⟨RB', i, none⟩) HX.out.2.2 (fun q => q)).trans HX.out.1
        have q1 : (w3.alloc (.cells (cellsB z).toArray 31)).frozen? ⟨RB', i, none⟩ = false := (f4.frozen (p := ⟨RB', i, none⟩) HX.out.2.2 (fun q => q)).trans HX.out.2.1
        obtain ⟨hE1, hE2⟩ := HSet.out _ f4 (.slice (some ⟨w3.heap.size, 0, none⟩) 1 1) (own_one (Blk.new w3 31 (cellsB z).toArray) HS.out)
        have HE := Lib.hid (And.intro hE1 (And.intro hE2 f3'.size))
        refine anyH_skip 22 ((w3.alloc (.cells (cellsB z).toArray 31)).setCell ⟨RB', i, none⟩ (.slice (some ⟨w3.heap.size, 0, none⟩) 1 1)) (by kernel_rfl) rfl rfl (by rfl) (by rw [HXE.out] at q0; go_simp) hE2 ?_
        refine wpAnyH_done (by kernel_rfl) ?_ _
        obtain ⟨bn, hbn⟩ : ∃ bn, bn = w3.heap.size := ⟨_, rfl⟩
        rw [← hbn] at HE hE1 hE2 ⊢
        have HBn := Lib.hid hbn
        generalize (w3.alloc (.cells (cellsB z).toArray 31)).setCell ⟨RB', i, none⟩ (.slice (some ⟨bn, 0, none⟩) 1 1) = w5 at *
        have HFn : Hid (Fr (fun b => b = RB') w1 w5) := Lib.hid (HF.out.trans HE.out.2.1 (fun _ _ q => q))
        have HIn : Hid (∀ b, RIn g v (vs1.set i (.slice (some ⟨bn, 0, none⟩) 1 1)) b → RIn g v vs b ∨ w.heap.size ≤ b) := Lib.hid fun b hb => by
          rcases rin_set (n := w.heap.size) (fun q => by
            have e : bn = b := by simpa [Value.ownBlock] using q
            have h1 := HE.out.2.2
            have h2 := HF.out.size
            have h3 := HBn.out
            have h4 := HO1.out.2.2.2.size
            omega) hb with q | q
          · exact HI.out b q
          · exact .inr q
        clear hE1 hE2 q0 q1 f4 hS4 f3 f3' hLf HC HSet hbn
        go_wp2_with fail
        exact ⟨⟨k + 1, by go_num, by omega, Lib.hid ⟨_, HE.out.1, HP.out, HIn.out⟩, HFn⟩, by simp [intOf]; omega⟩
    · obtain rfl : k = N := by omega
      have h0 : (r.pairs picks).take k = r.pairs picks := by
        rw [HO1.out.1, ← rpairs_len r picks]
        exact List.take_length
      rw [h0] at hrk
      have c1 : wr.cell? ⟨g, 1, none⟩ = some (.int .i64 rk.left) := (hR.blk.cell 1).trans rfl
      have fz1 := hR.blk.frozen 1
      have hb1 := hR.blk.set_ 1 (.int .i64 (-1))
      have c2 : (wr.setCell ⟨g, 1, none⟩ (.int .i64 (-1))).cell? ⟨g, 2, none⟩ = some (.bool rk.dead) := (hb1.cell 2).trans rfl
      have fz2 := hb1.frozen 2
      have hb2 := hb1.set_ 2 (.bool false)
      have f2 : Fr (fun b => b = g) wr ((wr.setCell ⟨g, 1, none⟩ (.int .i64 (-1))).setCell ⟨g, 2, none⟩ (.bool false)) := ((Fr.refl (fun b => b = g) wr).setCell (p := ⟨g, 1, none⟩) (.inl rfl) _).setCell (p := ⟨g, 2, none⟩) (.inl rfl) _
      have hR2 := hR.struct f2 hb2
      have HE : Hid (RefW ((wr.setCell ⟨g, 1, none⟩ (.int .i64 (-1))).setCell ⟨g, 2, none⟩ (.bool false)) g v vs1 (r.crash picks) ∧ (∀ b, RIn g v vs1 b → RIn g v vs b ∨ w.heap.size ≤ b) ∧ Fr (fun b => b = g ∨ v.ownBlock = some b) w ((wr.setCell ⟨g, 1, none⟩ (.int .i64 (-1))).setCell ⟨g, 2, none⟩ (.bool false))) := Lib.hid ⟨by
        unfold RD.crash
        rw [← hrk]
        exact hR2, hin1, (((HO1.out.2.2.2.mono (G := fun b => b = g ∨ v.ownBlock = some b) (fun _ _ q => q.elim)).trans HF.out (fun b _ q => .inr (by have q' : b = RB := q; rw [q', HVN.out]; rfl))).trans f2 (fun _ _ q => .inl q))⟩
      clear hlt hk hR hN1 hin1 hrk hlen h0 hb1 hb2 f2 hR2
      go_wp2_with fail
      refine bodyPost_end (results_none rfl _ _ _) rfl ?_
      exact ⟨rfl, ⟨vs1, HE.out.1, HE.out.2.1⟩, HE.out.2.2⟩
end
end Go.Proofs.Ytiobmejnamdneaa
