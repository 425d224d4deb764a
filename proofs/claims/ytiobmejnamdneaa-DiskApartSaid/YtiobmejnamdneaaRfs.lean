/- The document's disk: Write of a dead one, Flush. -/
import Derived.Test.YtiobmejnamdneaaRwr
namespace Go.Proofs.Ytiobmejnamdneaa
open Go.RowKit Go.Maps

section
variable {w : World} {g : Nat} {v : Value} {vs : List Value} {r : RD}
theorem rwrite_dead (h : RefW w g v vs r) (h1 : r.left ≤ 9223372036854775807) {i : Int} {s : List UInt8} (ho : r.out = true) :
    Calls Try.prog 23 #[.pointer (some ⟨g, 0, none⟩), .int .i64 i, av s] w fun e w' => e = .returned (.bool false) ∧ RefW w' g v vs r.stepD ∧ Fr (fun b => b = g) w w' := by
  have fa := (Fr.refl (fun _ => False) w).alloc (.cells (cellsB s).toArray 31)
  have h0 := h.keep fa (fun _ _ q => q)
  have HSt := rstep_any h0 h1
  rw [ho] at HSt
  have H0 := Lib.hid (And.intro fa h)
  clear fa h0 h h1
  go_enter Try.func23, Try.ntmps23
  go_wp2_with (refine wpList_put rfl 31 _ rfl _ rfl ?_)
  refine HSt.mono ?_
  rintro e w2 ⟨rfl, hR2, f2⟩
  have HE := Lib.hid (And.intro hR2 ((H0.out.1.mono (G := fun b => b = g) (fun _ _ q => q.elim)).trans f2 (fun _ _ q => q)))
  clear hR2 f2 HSt
  go_wp2_with fail
  go_ret
  exact ⟨rfl, HE.out.1, HE.out.2⟩
theorem rflush_dead (h : RefW w g v vs r) (h1 : r.left ≤ 9223372036854775807) (ho : r.out = true) :
    Calls Try.prog 24 #[.pointer (some ⟨g, 0, none⟩)] w fun e w' => e = .returned (.bool false) ∧ RefW w' g v vs r.stepD ∧ Fr (fun b => b = g) w w' := by
  have HSt := rstep_any h h1
  rw [ho] at HSt
  clear h h1
  go_enter Try.func24, Try.ntmps24
  go_wp2_with fail
  refine HSt.mono ?_
  rintro e w2 ⟨rfl, hR2, f2⟩
  have HE := Lib.hid (And.intro hR2 f2)
  clear hR2 f2 HSt
  go_wp2_with fail
  go_ret
  exact ⟨rfl, HE.out.1, HE.out.2⟩
/-- A sector settled. -/
def lastOne (ss : List (List UInt8)) : List (List UInt8) := [ss.getD (ss.length - 1) []]
set_option maxRecDepth 100000 in
set_option maxHeartbeats 4000000 in
theorem rflush_any (h : RefW w g v vs r) (h1 : r.left ≤ 9223372036854775807) (hn : 0 < r.V.length) (hn8 : r.V.length ≤ 8192) (ho : r.out = false) :
    Calls Try.prog 24 #[.pointer (some ⟨g, 0, none⟩)] w fun e w' => e = .returned (.bool true) ∧ (∃ vs', RefW w' g v vs' { r.stepD with V := r.V.map lastOne } ∧ ∀ b, RIn g v vs' b → RIn g v vs b ∨ w.heap.size ≤ b) ∧ Fr (fun b => b = g ∨ v.ownBlock = some b) w w' := by
  have HSt := rstep_any h h1
  rw [ho] at HSt
  obtain ⟨n, hne⟩ : ∃ n, n = r.V.length := ⟨_, rfl⟩
  rw [← hne] at hn hn8
  obtain ⟨RB, c, cur0, hv, _, hnc, hcm, _, _⟩ := h.form (by omega)
  have H0 := Lib.hid (And.intro hne (And.intro hv (And.intro h.g_row hnc)))
  have hvn : v = .slice (some ⟨RB, 0, none⟩) n c := by rw [hv, hne]
  have HVN := Lib.hid hvn
  clear h h1 hv hvn hne hnc hcm
  go_enter Try.func24, Try.ntmps24
  go_wp2_with fail
  refine HSt.mono ?_
  rintro e w2 ⟨rfl, hR2, f2⟩
  have H2 := Lib.hid (And.intro hR2 f2)
  clear hR2 f2 HSt
  go_wp2_with fail
  go_loopw [3] (fun x wr => ∃ k : Nat, x = .int .i64 k ∧ k ≤ n ∧ Hid (∃ vs' V', RefW wr g v vs' { r.stepD with V := V' } ∧ V'.length = n ∧ (∀ j, j < k → V'[j]? = (r.V[j]?).map lastOne) ∧ (∀ j, k ≤ j → V'[j]? = r.V[j]?) ∧ ∀ b, RIn g v vs' b → RIn g v vs b ∨ w.heap.size ≤ b) ∧ Hid (Fr (fun b => b = g ∨ v.ownBlock = some b) w wr)) (fun x _ => n - (intOf x).toNat)
  case atStart => exact ⟨0, rfl, Nat.zero_le _, Lib.hid ⟨vs, r.V, H2.out.1, H0.out.1.symm, fun j hj => absurd hj (by omega), fun j _ => rfl, fun b hb => .inl hb⟩, Lib.hid (H2.out.2.mono (fun _ _ q => .inl q))⟩
  case round =>
    obtain ⟨k, rfl, hk, HR, HF⟩ := hrel
    obtain ⟨vs1, V1, hR, hl1, hp1, hp2, hin1⟩ := HR.out
    clear H2 HR
    have cg : wr.cell? ⟨g, 0, none⟩ = some (.slice (some ⟨RB, 0, none⟩) n c) := (hR.blk.cell 0).trans (by rw [HVN.out]; rfl)
    by_cases hlt : k < n
    · obtain ⟨ss, hss⟩ : ∃ ss, V1[k]? = some ss := ⟨_, List.getElem?_eq_getElem (by omega)⟩
      have hss0 : r.V[k]? = some ss := by rw [← hp2 k (Nat.le_refl _)]; exact hss
      obtain ⟨RB', c', cur, hv, hb, hnc, hcm, hcs, htk⟩ := hR.form (show 0 < V1.length by omega)
      obtain rfl : RB' = RB := by
        have h1 := HVN.out
        rw [hv] at h1
        injection h1 with h1
        injection h1 with h1
        injection h1
      obtain ⟨x, hx, hrow, hne2, hall⟩ := hR.at_ (show ({ r.stepD with V := V1 } : RD).V[k]? = some ss from hss)
      obtain ⟨s, hs⟩ : ∃ s, s = ss.getD (ss.length - 1) [] := ⟨_, rfl⟩
      have hsl : s.length = 128 := by
        rw [hs, List.getD_eq_getElem?_getD, List.getElem?_eq_getElem (by have := List.length_pos_iff.2 hne2; omega)]
        exact hall _ (List.getElem_mem _)
      have HS := Lib.hid hsl
      have HRd : Calls Try.prog 11 #[.pointer (some ⟨g, 0, none⟩), .int .i64 k] wr.drew fun e w' => e = .returned (av s) ∧ Fr (fun _ => False) wr.drew w' := hs ▸ rread_any (hR.keep ((Fr.refl (fun _ => False) wr).drew) (fun _ _ q => q)) hss
      have HX : Hid (wr.cell? ⟨RB', k, none⟩ = some x ∧ wr.frozen? ⟨RB', k, none⟩ = false ∧ RB' < wr.heap.size) := Lib.hid ⟨row_at hb htk hx, hb.frozen k, hb.lt⟩
      obtain ⟨Ax, cx, hxe, _, _⟩ := own_slice hrow
      have hgR : g ≠ RB' := fun e => hR.g_row (by rw [hv, e]; rfl)
      have HC : Hid (∀ w', Fr (fun b => b = RB') wr w' → w'.cell? ⟨g, 0, none⟩ = some (.slice (some ⟨RB', 0, none⟩) n c)) := Lib.hid fun w' f => (f.cell (World.block_lt_of_cell? wr _ cg) hgR).trans cg
      have HSet : Hid (∀ w1, Fr (fun _ => False) wr w1 → ∀ x', w1.ownsRow 0 31 128 x' 1 (cellsB s) → RefW (w1.setCell ⟨RB', k, none⟩ x') g v (vs1.set k x') { r.stepD with V := V1.set k [s] } ∧ Fr (fun b => b = RB') wr (w1.setCell ⟨RB', k, none⟩ x')) := Lib.hid fun w1 f x' hx' =>
        hR.setEl (i := k) (show k < V1.length by omega) hv hb hnc hcm hcs htk f (ss' := [s]) (by simpa using hx') (by simp) (fun y hy => by rw [List.mem_singleton.1 hy]; exact HS.out)
      have HP : Hid (V1.length = n ∧ (∀ j, j < k + 1 → (V1.set k [s])[j]? = (r.V[j]?).map lastOne) ∧ (∀ j, k + 1 ≤ j → (V1.set k [s])[j]? = r.V[j]?)) := Lib.hid ⟨hl1, fun j hj => by
        by_cases e : j = k
        · subst e
          rw [List.getElem?_set_self (by omega), hss0, hs]
          rfl
        · rw [List.getElem?_set_ne (fun q => e q.symm)]
          exact hp1 j (by omega), fun j hj => by
        rw [List.getElem?_set_ne (by omega)]
        exact hp2 j (by omega)⟩
      have HI := Lib.hid hin1
      have HXE := Lib.hid hxe
      have hi0 : (0 : Int) ≤ (k : Int) := by omega
      have hi1 : (k : Int) < (n : Int) := by omega
      clear hss hss0 hv hb hnc hcm hcs htk hx hrow hne2 hall hs hsl hxe hgR hl1 hp1 hp2 hin1 hR hk
      go_wp2_with fail
      refine wp_region_held_drew (S := fun w' => Fr (fun b => b = RB') wr w') (by kernel_rfl) ((Fr.refl _ _).drew) (fun hS0 => ?_)
      refine anyH_take 0 16 (.pointer (some ⟨g, 0, none⟩)) rfl rfl (by kernel_rfl) (by kernel_rfl) (by kernel_rfl) (fun _ _ _ h => h) (.inl ⟨by rfl, fun w'' hS => by go_simp⟩) hS0 ?_
      (simp only [List.setIfInBounds_toArray, List.set_cons_zero, List.set_cons_succ])
      refine anyH_take 1 17 (.pointer (some ⟨g, 0, none⟩)) rfl rfl (by kernel_rfl) (by kernel_rfl) (by kernel_rfl) (fun _ _ _ h => h) (.inl ⟨by rfl, fun w'' hS => by go_simp⟩) hS0 ?_
      (simp only [List.setIfInBounds_toArray, List.set_cons_zero, List.set_cons_succ])
      refine anyH_take 2 18 (.pointer (some ⟨g, 0, none⟩)) rfl rfl (by kernel_rfl) (by kernel_rfl) (by kernel_rfl) (fun _ _ _ h => h) (.inl ⟨by rfl, fun w'' hS => by go_simp⟩) hS0 ?_
      (simp only [List.setIfInBounds_toArray, List.set_cons_zero, List.set_cons_succ])
      refine anyH_take 3 19 (.slice (some ⟨RB', 0, none⟩) n c) rfl rfl (by kernel_rfl) (by kernel_rfl) (by kernel_rfl) (fun _ _ _ h => h) (.inl ⟨by rfl, fun w'' hS => by have q0 := HC.out w'' hS; go_simp⟩) hS0 ?_
      (simp only [List.setIfInBounds_toArray, List.set_cons_zero, List.set_cons_succ])
      refine anyH_take 4 20 (.int .i64 (k : Nat)) rfl rfl (by kernel_rfl) (by kernel_rfl) (by kernel_rfl) (fun _ _ _ h => h) (.inl ⟨by rfl, fun w'' hS => by go_simp⟩) hS0 ?_
      (simp only [List.setIfInBounds_toArray, List.set_cons_zero, List.set_cons_succ])
      refine anyH_take 5 21 (.pointer (some ⟨g, 0, none⟩)) rfl rfl (by kernel_rfl) (by kernel_rfl) (by kernel_rfl) (fun _ _ _ h => h) (.inl ⟨by rfl, fun w'' hS => by go_simp⟩) hS0 ?_
      (simp only [List.setIfInBounds_toArray, List.set_cons_zero, List.set_cons_succ])
      refine anyH_take 6 22 (.int .i64 (k : Nat)) rfl rfl (by kernel_rfl) (by kernel_rfl) (by kernel_rfl) (fun _ _ _ h => h) (.inl ⟨by rfl, fun w'' hS => by go_simp⟩) hS0 ?_
      (simp only [List.setIfInBounds_toArray, List.set_cons_zero, List.set_cons_succ])
      refine anyH_enter 7 23 (f := 11) (args := #[.pointer (some ⟨g, 0, none⟩), .int .i64 (k : Nat)]) (by kernel_rfl) rfl rfl (by rfl) (by go_simp) ?_
      refine HRd.mono ?_
      rintro e w3 ⟨rfl, f3⟩
      have f3' : Fr (fun _ => False) wr w3 := ((Fr.refl (fun _ => False) wr).drew).trans f3 (fun _ _ q => q)
      refine ⟨av s, rfl, f3'.mono (fun _ _ q => q.elim), ?_⟩
      (simp only [List.setIfInBounds_toArray, List.set_cons_zero, List.set_cons_succ])
      have f4 : Fr (fun _ => False) wr (w3.alloc (.cells (cellsB s).toArray 31)) := f3'.alloc _
      refine anyH_value 8 24 (.slice (some ⟨w3.heap.size, 0, none⟩) 1 1) (w3.alloc (.cells (cellsB s).toArray 31)) (by kernel_rfl) rfl rfl (by rfl) (run_build_op _ rfl HS.out rfl) (f4.mono (fun _ _ q => q.elim)) ?_
      (simp only [List.setIfInBounds_toArray, List.set_cons_zero, List.set_cons_succ])
      have hS4 : Fr (fun b => b = RB') wr (w3.alloc (.cells (cellsB s).toArray 31)) := f4.mono (fun _ _ q => q.elim)
      refine anyH_take 9 25 (.pointer (some ⟨RB', k, none⟩)) rfl rfl (by kernel_rfl) (by kernel_rfl) (by kernel_rfl) (fun _ _ _ h => h) (.inl ⟨by rfl, fun w'' hS => by go_simp⟩) hS4 ?_
      (simp only [List.setIfInBounds_toArray, List.set_cons_zero, List.set_cons_succ])
      have q0 : (w3.alloc (.cells (cellsB s).toArray 31)).cell? ⟨RB', k, none⟩ = some x := (f4.cell (p := ⟨RB', k, none⟩) HX.out.2.2 (fun q => q)).trans HX.out.1
      have q1 : (w3.alloc (.cells (cellsB s).toArray 31)).frozen? ⟨RB', k, none⟩ = false := (f4.frozen (p := ⟨RB', k, none⟩) HX.out.2.2 (fun q => q)).trans HX.out.2.1
      obtain ⟨hE1, hE2⟩ := HSet.out _ f4 (.slice (some ⟨w3.heap.size, 0, none⟩) 1 1) (own_one (Blk.new w3 31 (cellsB s).toArray) HS.out)
      have HE := Lib.hid (And.intro hE1 (And.intro hE2 f3'.size))
      refine anyH_skip 10 ((w3.alloc (.cells (cellsB s).toArray 31)).setCell ⟨RB', k, none⟩ (.slice (some ⟨w3.heap.size, 0, none⟩) 1 1)) (by kernel_rfl) rfl rfl (by rfl) (by rw [HXE.out] at q0; go_simp) hE2 ?_
      refine wpAnyH_done (by kernel_rfl) ?_ _
      obtain ⟨bn, hbn⟩ : ∃ bn, bn = w3.heap.size := ⟨_, rfl⟩
      rw [← hbn] at HE hE1 hE2 ⊢
      have HBn := Lib.hid hbn
      generalize (w3.alloc (.cells (cellsB s).toArray 31)).setCell ⟨RB', k, none⟩ (.slice (some ⟨bn, 0, none⟩) 1 1) = w5 at *
      have HFn : Hid (Fr (fun b => b = g ∨ v.ownBlock = some b) w w5) := Lib.hid (HF.out.trans HE.out.2.1 (fun b hb q => .inr (by have q' : b = RB' := q; rw [q', HVN.out]; rfl)))
      clear hE1 hE2 q0 q1 f4 hS4 f3 f3' HRd HC HSet hbn
      go_wp2_with fail
      refine ⟨⟨k + 1, by go_num, by omega, Lib.hid ⟨_, _, HE.out.1, by rw [List.length_set]; exact HP.out.1, HP.out.2.1, HP.out.2.2, fun b hb => ?_⟩, HFn⟩, by simp [intOf]; omega⟩
      rcases rin_set (n := w.heap.size) (fun q => by
        have e : bn = b := by simpa [Value.ownBlock] using q
        have h1 := HE.out.2.2
        have h2 := HF.out.size
        have h3 := HBn.out
        omega) hb with q | q
      · exact HI.out b q
      · exact .inr q
    · obtain rfl : k = n := by omega
      have hV : V1 = r.V.map lastOne := by
        refine List.ext_getElem? fun j => ?_
        by_cases hj : j < k
        · rw [hp1 j hj, List.getElem?_map]
        · rw [hp2 j (by omega), List.getElem?_map, List.getElem?_eq_none (by have := H0.out.1; omega)]
          rfl
      have HE := Lib.hid (And.intro hR (And.intro hin1 hV))
      clear hlt hk hR hin1 hV hp1 hp2 hl1
      go_wp2_with fail
      go_ret
      rw [HE.out.2.2] at HE
      exact ⟨rfl, ⟨vs1, HE.out.1, HE.out.2.1⟩, HF.out⟩
end
end Go.Proofs.Ytiobmejnamdneaa
