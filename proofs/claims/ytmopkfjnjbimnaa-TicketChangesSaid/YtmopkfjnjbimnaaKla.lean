/- couponref13: Last, Tax. -/
import Derived.Test.YtmopkfjnjbimnaaKma
namespace Go.Proofs.Ytmopkfjnjbimnaa
open Go.RowKit

theorem pre_idx {n m : Nat} (h : n = m + 1) (h0 : m ≤ 1000) : (n : Int) - 1 = (m : Int) ∧ wrap64 (m : Int) = (m : Int) ∧ (0 : Int) ≤ (m : Int) ∧ (m : Int) < (n : Int) := ⟨by omega, wrap64_id (by omega) (by omega), by omega, by omega⟩
set_option maxRecDepth 100000 in
theorem rlastt_any {w : World} {v : Value} {t : TkD} (hv : TkV w v t) (hn : t.his.length ≤ 1000) : Calls Try.prog 25 #[v] w fun e w' => e = .returned (.int .i64 (lastT t)) ∧ Fr (fun _ => False) w w' := by
  obtain ⟨z, hz⟩ : ∃ z, z = lastT t := ⟨_, rfl⟩
  rw [← hz]
  obtain ⟨sc, sx, se, rfl, a1, a2, a3⟩ := hv
  have HA := Lib.hid (And.intro a1 (And.intro a2 a3))
  obtain ⟨A1, n1, c1, e1, l1⟩ : ∃ A n c, sc = .slice A n c ∧ n = t.cps.length := by obtain ⟨A, c, e, _⟩ := a1.slice; exact ⟨A, _, c, e, rfl⟩
  obtain ⟨A2, n2, c2, e2, l2⟩ : ∃ A n c, sx = .slice A n c ∧ n = t.txs.length := by obtain ⟨A, c, e, _⟩ := a2.slice; exact ⟨A, _, c, e, rfl⟩
  obtain ⟨A3, n3, c3, e3, l3⟩ : ∃ A n c, se = .slice A n c ∧ n = t.his.length := by obtain ⟨A, c, e, _⟩ := a3.slice; exact ⟨A, _, c, e, rfl⟩
  subst e1 e2 e3
  have HL := Lib.hid (And.intro l1 (And.intro l2 l3))
  obtain ⟨W0, hW0⟩ : ∃ W, W = w.alloc (.cells (tkA t (.slice A1 n1 c1) (.slice A2 n2 c2) (.slice A3 n3 c3)) 27) := ⟨_, rfl⟩
  have HB : Hid (Fr (fun _ => False) w W0 ∧ Blk W0 w.heap.size 27 (tkA t (.slice A1 n1 c1) (.slice A2 n2 c2) (.slice A3 n3 c3)) ∧ W0.heap.size = w.heap.size + 1) := Lib.hid (by rw [hW0]; exact ⟨(Fr.refl _ w).alloc _, Blk.new w _ _, Array.size_push _⟩)
  have HQ := Lib.hid hW0
  rcases Nat.eq_zero_or_pos n3 with h0 | h0
  · obtain rfl : z = t.iss := by
      have hh : t.his = [] := List.length_eq_zero_iff.1 (by omega)
      rw [hz]
      unfold lastT
      rw [hh]
      rfl
    have b0 : ((n3 : Int) == 0) = true := by rw [beq_iff_eq]; omega
    have hx : W0.cell? ⟨w.heap.size, 2, none⟩ = some (.int .i64 t.iss) := cp_cell HB.out.2.1 2 rfl
    have hx3 : W0.cell? ⟨w.heap.size, 10, none⟩ = some (.slice A3 n3 c3) := cp_cell HB.out.2.1 10 rfl
    clear a1 a2 a3 l1 l2 l3 hW0 hn hz h0
    go_enter Try.func25, Try.ntmps25
    go_upto_region 1 with fail
    rw [← HQ.out]
    clear HQ
    go_wp2_with fail
    clear hx hx3 b0
    go_ret
    exact ⟨rfl, HB.out.1⟩
  · obtain ⟨m, hm⟩ : ∃ m, n3 = m + 1 := ⟨n3 - 1, by omega⟩
    obtain ⟨x, hx⟩ : ∃ x, t.his[m]? = some x := ⟨_, List.getElem?_eq_getElem (by omega)⟩
    obtain ⟨b3, o3, cc3, e3, hc3⟩ := HA.out.2.2.cell hx
    injection e3 with e3 e3n e3c
    subst e3
    have hzx : z = x.dy := by
      rw [hz]
      unfold lastT
      rw [List.getLast?_eq_getElem?, show t.his.length - 1 = m by omega, hx]
      rfl
    have hy : W0.cell? ⟨b3, o3 + m * 4, none⟩ = some (.int .i64 z) := by
      have h5 := hc3 0 (.int .i64 x.dy) rfl
      rw [hzx]
      exact (HB.out.1.cell (World.block_lt_of_cell? w _ h5) (fun q => q)).trans h5
    have hx3 : W0.cell? ⟨w.heap.size, 10, none⟩ = some (.slice (some ⟨b3, o3, none⟩) n3 c3) := cp_cell HB.out.2.1 10 rfl
    have b0 : ((n3 : Int) == 0) = false := by rw [beq_eq_false_iff_ne]; omega
    have i0 : m ≤ 1000 := by omega
    obtain ⟨i1, i2, i3, i4⟩ := pre_idx hm i0
    clear a1 a2 a3 l1 l2 l3 hW0 hz hm hx hc3 e3n e3c hzx h0
    go_enter Try.func25, Try.ntmps25
    go_upto_region 1 with fail
    rw [← HQ.out]
    clear HQ
    go_wp2_with fail
    go_ret
    exact ⟨rfl, HB.out.1⟩
theorem sum_some : ∀ l : List TxD, (∀ x ∈ l, someB x.am = true) → 0 ≤ (l.map TxD.am).sum ∧ (l.map TxD.am).sum ≤ (l.length : Int) * 1000000000000
  | [], _ => by simp
  | y :: l, h => by
    have h1 : 0 ≤ y.am ∧ y.am ≤ 1000000000000 := of_decide_eq_true (h y (by simp))
    have h2 := sum_some l (fun x hx => h x (by simp [hx]))
    simp only [List.map_cons, List.sum_cons, List.length_cons]
    push_cast
    omega
set_option maxRecDepth 100000 in
theorem rtax_any {w : World} {v : Value} {t : TkD} (hv : TkV w v t) (hn : t.txs.length ≤ 4) (hs : ∀ x ∈ t.txs, someB x.am = true) : Calls Try.prog 27 #[v] w fun e w' => e = .returned (.int .i64 (taxT t)) ∧ Fr (fun _ => False) w w' := by
  obtain ⟨z, hz⟩ : ∃ z, z = taxT t := ⟨_, rfl⟩
  rw [← hz]
  have HZ := Lib.hid hz
  obtain ⟨sc, sx, se, rfl, a1, a2, a3⟩ := hv
  have HA := Lib.hid (And.intro a1 (And.intro a2 a3))
  obtain ⟨A1, n1, c1, e1, l1⟩ : ∃ A n c, sc = .slice A n c ∧ n = t.cps.length := by obtain ⟨A, c, e, _⟩ := a1.slice; exact ⟨A, _, c, e, rfl⟩
  obtain ⟨A2, n2, c2, e2, l2⟩ : ∃ A n c, sx = .slice A n c ∧ n = t.txs.length := by obtain ⟨A, c, e, _⟩ := a2.slice; exact ⟨A, _, c, e, rfl⟩
  obtain ⟨A3, n3, c3, e3, l3⟩ : ∃ A n c, se = .slice A n c ∧ n = t.his.length := by obtain ⟨A, c, e, _⟩ := a3.slice; exact ⟨A, _, c, e, rfl⟩
  subst e1 e2 e3
  have HL := Lib.hid (And.intro l1 (And.intro l2 l3))
  obtain ⟨W0, hW0⟩ : ∃ W, W = w.alloc (.cells (tkA t (.slice A1 n1 c1) (.slice A2 n2 c2) (.slice A3 n3 c3)) 27) := ⟨_, rfl⟩
  have HB : Hid (Fr (fun _ => False) w W0 ∧ Blk W0 w.heap.size 27 (tkA t (.slice A1 n1 c1) (.slice A2 n2 c2) (.slice A3 n3 c3)) ∧ W0.heap.size = w.heap.size + 1) := Lib.hid (by rw [hW0]; exact ⟨(Fr.refl _ w).alloc _, Blk.new w _ _, Array.size_push _⟩)
  have HQ := Lib.hid hW0
  have m2 : n2 ≤ 4 := by omega
  have HS := Lib.hid hs
  clear a1 a2 a3 l1 l2 l3 hW0 hz hn hs
  go_enter Try.func27, Try.ntmps27
  go_upto_region 1 with fail
  rw [← HQ.out]
  clear HQ
  go_wp2_with fail
  have H0 : Hid (Fr (fun _ => False) W0 W0) := Lib.hid (Fr.refl _ _)
  go_loopw [3, 4] (fun s x wr => ∃ k : Nat, s = .int .i64 ((t.txs.take k).map TxD.am).sum ∧ x = .int .i64 k ∧ k ≤ n2 ∧ Hid (Fr (fun _ => False) W0 wr)) (fun _ x _ => n2 - (intOf x).toNat)
  case atStart => exact ⟨0, rfl, rfl, Nat.zero_le _, H0⟩
  case round =>
    clear H0
    obtain ⟨k, rfl, rfl, hk, HF⟩ := hrel
    have hx1 := cp_cell (HB.out.2.1.keep HF.out (fun q => q)) 4 rfl
    obtain ⟨S, hS⟩ : ∃ S, S = ((t.txs.take k).map TxD.am).sum := ⟨_, rfl⟩
    rw [← hS]
    by_cases hlt : k < n2
    · obtain ⟨x1, hx⟩ : ∃ x, t.txs[k]? = some x := ⟨_, List.getElem?_eq_getElem (by rw [← HL.out.2.1]; exact hlt)⟩
      obtain ⟨b2, o2, cc2, e2, hc2⟩ := HA.out.2.1.cell hx
      injection e2 with e2 e2n e2c
      subst e2
      clear hx1
      have hx1 := cp_cell (HB.out.2.1.keep HF.out (fun q => q)) 4 rfl
      obtain ⟨y, hy⟩ : ∃ y, y = x1.am := ⟨_, rfl⟩
      have hc : wr.cell? ⟨b2, o2 + k * 2 + 1, none⟩ = some (.int .i64 y) := by
        have h5 := hc2 1 (.int .i64 x1.am) rfl
        rw [hy]
        exact ((HB.out.1.trans HF.out (fun _ _ q => q)).cell (World.block_lt_of_cell? w _ h5) (fun q => q)).trans h5
      have hk0 : (0 : Int) ≤ (k : Int) := by omega
      have hkm : (k : Int) < (n2 : Int) := by omega
      have hsum : 0 ≤ S ∧ S ≤ (k : Int) * 1000000000000 := by
        rw [hS]
        have := sum_some (t.txs.take k) (fun x hx => HS.out x (List.mem_of_mem_take hx))
        have hl : (t.txs.take k).length ≤ k := by rw [List.length_take]; omega
        refine ⟨this.1, Int.le_trans this.2 ?_⟩
        exact Int.mul_le_mul_of_nonneg_right (by omega) (by omega)
      have hy0 : 0 ≤ y ∧ y ≤ 1000000000000 := by rw [hy]; exact of_decide_eq_true (HS.out x1 (List.mem_of_getElem? hx))
      have hb : S ≤ 4000000000000 := by have h6 := hsum.2; have h7 : (k : Int) ≤ 4 := (by omega); omega
      have hadd : wrap64 (S + y) = S + y := wrap64_id (by omega) (by omega)
      have hnx : ((t.txs.take (k + 1)).map TxD.am).sum = S + y := by rw [take_succ' hx, List.map_append, List.sum_append, hS, hy]; simp
      have HNX := Lib.hid (And.intro hnx hlt)
      clear hx hc2 e2n e2c hlt hS hy hsum hy0 hb hnx
      go_wp2_with fail
      refine ⟨⟨k + 1, by rw [HNX.out.1, hadd], by go_num, by have := HNX.out.2; omega, HF⟩, ?_⟩
      simp [intOf]
      have := HNX.out.2
      omega
    · obtain rfl : k = n2 := by omega
      have hkk : ¬ (k : Int) < (k : Int) := by omega
      obtain rfl : z = S := by
        rw [HZ.out, hS]
        unfold taxT
        rw [List.take_of_length_le (by rw [← HL.out.2.1]; exact Nat.le_refl _)]
      clear hlt hS
      go_wp2_with fail
      go_ret
      exact ⟨rfl, HB.out.1.trans HF.out (fun _ _ q => q)⟩
end Go.Proofs.Ytmopkfjnjbimnaa
