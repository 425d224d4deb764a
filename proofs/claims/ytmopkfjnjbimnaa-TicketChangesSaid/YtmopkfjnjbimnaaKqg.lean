/- ticket's Taxes, Live, Value, At. -/
import Derived.Test.YtmopkfjnjbimnaaKqf
namespace Go.Proofs.Ytmopkfjnjbimnaa
open Go.RowKit

theorem may_in {t : TkD} (h : mayT t = true) : (1 ≤ t.cps.length ∧ t.cps.length ≤ 4) ∧ t.txs.length ≤ 4 ∧ t.his.length ≤ 60 ∧ (∀ x ∈ t.txs, someB x.am = true) ∧ (∀ c ∈ t.cps, someB c.va = true) := by
  rw [mayT_eq] at h
  unfold coupsB taxesB tellsB at h
  simp only [Bool.and_eq_true, decide_eq_true_eq, List.all_eq_true] at h
  obtain ⟨⟨⟨-, h6⟩, h7⟩, h8⟩ := h
  refine ⟨h6.1, h7.1, h8.1, fun x hx => ?_, fun c hc => ?_⟩
  · obtain ⟨j, hj⟩ := List.mem_iff_getElem?.1 hx
    exact (txsB_at t.txs t.txs.length 0 (Nat.le_refl _) h7.2 j x (List.getElem?_eq_some_iff.1 hj).1 hj).2.2
  · have h9 := h6.2 c hc
    rw [cpB_w] at h9
    simp only [Bool.and_eq_true] at h9
    exact h9.1.1.2
set_option maxRecDepth 100000 in
set_option maxHeartbeats 4000000 in
theorem ptaxs_any {w : World} {v : Value} {t : TkD} (hv : TkV w v t) (hok : TkOk t) (hl : t.loc.size ≤ 1000) : Calls Try.prog 22 #[v] w fun e w' => e = .returned (.int .i64 (if mayT t = true then taxT t else 0)) ∧ Fr (fun _ => False) w w' := by
  obtain ⟨z, hz⟩ : ∃ z, z = if mayT t = true then taxT t else 0 := ⟨_, rfl⟩
  rw [← hz]
  have HZ := Lib.hid hz
  have HV := Lib.hid hv
  obtain ⟨sc, sx, se, rfl, a1, a2, a3⟩ := hv
  have HA := Lib.hid (And.intro a1 (And.intro a2 a3))
  obtain ⟨A1, n1, c1, e1, l1⟩ : ∃ A n c, sc = .slice A n c ∧ n = t.cps.length := by obtain ⟨A, c, e, _⟩ := a1.slice; exact ⟨A, _, c, e, rfl⟩
  obtain ⟨A2, n2, c2, e2, l2⟩ : ∃ A n c, sx = .slice A n c ∧ n = t.txs.length := by obtain ⟨A, c, e, _⟩ := a2.slice; exact ⟨A, _, c, e, rfl⟩
  obtain ⟨A3, n3, c3, e3, l3⟩ : ∃ A n c, se = .slice A n c ∧ n = t.his.length := by obtain ⟨A, c, e, _⟩ := a3.slice; exact ⟨A, _, c, e, rfl⟩
  subst e1 e2 e3
  have HL := Lib.hid (And.intro l1 (And.intro l2 l3))
  obtain ⟨W0, hW0⟩ : ∃ W, W = w.alloc (.cells (tkA t (.slice A1 n1 c1) (.slice A2 n2 c2) (.slice A3 n3 c3)) 27) := ⟨_, rfl⟩
  have HB : Hid (Fr (fun _ => False) w W0 ∧ Blk W0 w.heap.size 27 (tkA t (.slice A1 n1 c1) (.slice A2 n2 c2) (.slice A3 n3 c3)) ∧ W0.heap.size = w.heap.size + 1) := Lib.hid (by rw [hW0]; exact ⟨(Fr.refl _ w).alloc _, Blk.new w _ _, Array.size_push _⟩)
  have HQ := Lib.hid hW0
  have HMT := Lib.hid (fun W f => pmayt_any (w := W) (HV.out.keep0 f) hok hl)
  have HBL := Lib.hid HB.out.2.1
  clear a1 a2 a3 l1 l2 l3 hW0 hok hl hz
  go_enter Try.func22, Try.ntmps22
  go_upto_region 1 with fail
  rw [← HQ.out]
  clear HQ
  cases e0 : mayT t with
  | false =>
    rw [e0] at HMT
    obtain rfl : z = 0 := by rw [HZ.out, e0]; rfl
    go_wp2_with (refine wpList_load_mid rfl 27 (.tmp 1) rfl w.heap.size 0 rfl (tkA t (.slice A1 n1 c1) (.slice A2 n2 c2) (.slice A3 n3 c3)).toList _ (blk_range HBL.out) Try.underlying27 rfl infoTk ?_)
    refine (HMT.out _ HB.out.1).mono ?_
    rintro e w1 ⟨rfl, f1⟩
    have HF1 := Lib.hid (HB.out.1.trans f1 (fun _ _ q => q))
    clear f1
    go_wp2_with fail
    go_ret
    exact ⟨rfl, HF1.out⟩
  | true =>
    rw [e0] at HMT
    have HIN := Lib.hid (may_in e0)
    rw [e0, if_pos rfl] at HZ
    clear e0
    go_wp2_with (refine wpList_load_mid rfl 27 (.tmp 1) rfl w.heap.size 0 rfl (tkA t (.slice A1 n1 c1) (.slice A2 n2 c2) (.slice A3 n3 c3)).toList _ (blk_range HBL.out) Try.underlying27 rfl infoTk ?_)
    refine (HMT.out _ HB.out.1).mono ?_
    rintro e w1 ⟨rfl, f1⟩
    have HF1 := Lib.hid (HB.out.1.trans f1 (fun _ _ q => q))
    have HBL1 := Lib.hid (HBL.out.keep f1 (fun q => q))
    clear f1 HBL HMT
    have hx4 : w1.cell? ⟨w.heap.size, 4, none⟩ = some (.slice A2 n2 c2) := cp_cell HBL1.out 4 rfl
    have m2 : n2 ≤ 4 := by rw [HL.out.2.1]; exact HIN.out.2.1
    have H0 : Hid (Fr (fun _ => False) w w1) := HF1
    go_wp2_with fail
    clear hx4
    go_loopw [3, 12] (fun s x wr => ∃ k : Nat, s = .int .i64 ((t.txs.take k).map TxD.am).sum ∧ x = .int .i64 k ∧ k ≤ n2 ∧ Hid (Fr (fun _ => False) w wr)) (fun _ x _ => n2 - (intOf x).toNat)
    case atStart => exact ⟨0, rfl, rfl, Nat.zero_le _, H0⟩
    case round =>
      clear H0
      obtain ⟨k, rfl, rfl, hk, HF⟩ := hrel
      obtain ⟨S, hS⟩ : ∃ S, S = ((t.txs.take k).map TxD.am).sum := ⟨_, rfl⟩
      rw [← hS]
      by_cases hlt : k < n2
      · obtain ⟨x1, hx⟩ : ∃ x, t.txs[k]? = some x := ⟨_, List.getElem?_eq_getElem (by rw [← HL.out.2.1]; exact hlt)⟩
        obtain ⟨b2, o2, cc2, e2, hc2⟩ := HA.out.2.1.cell hx
        injection e2 with e2 e2n e2c
        subst e2
        have hy1 : wr.rangeAt b2 (o2 + k * 2) (txC x1) := fun j u hu => by have h5 := hc2 j u hu; exact (HF.out.cell (World.block_lt_of_cell? w _ h5) (fun q => q)).trans h5
        have hk0 : (0 : Int) ≤ (k : Int) := by omega
        have hkm : (k : Int) < (n2 : Int) := by omega
        have hsum : 0 ≤ S ∧ S ≤ (k : Int) * 1000000000000 := by
          rw [hS]
          have := sum_some (t.txs.take k) (fun x hx => HIN.out.2.2.2.1 x (List.mem_of_mem_take hx))
          have hl : (t.txs.take k).length ≤ k := by rw [List.length_take]; omega
          refine ⟨this.1, Int.le_trans this.2 ?_⟩
          exact Int.mul_le_mul_of_nonneg_right (by omega) (by omega)
        have hy0 : 0 ≤ x1.am ∧ x1.am ≤ 1000000000000 := of_decide_eq_true (HIN.out.2.2.2.1 x1 (List.mem_of_getElem? hx))
        have hb : S ≤ 4000000000000 := by have h6 := hsum.2; have h7 : (k : Int) ≤ 4 := (by omega); omega
        have hadd : wrap64 (S + x1.am) = S + x1.am := wrap64_in (by omega) (by omega)
        have hnx : ((t.txs.take (k + 1)).map TxD.am).sum = S + x1.am := by rw [take_succ' hx, List.map_append, List.sum_append, hS]; simp
        have HNX := Lib.hid (And.intro hnx (And.intro hlt hadd))
        clear hx hc2 e2n e2c hlt hS hsum hy0 hb hnx hadd
        go_upto_region 7 with (refine wpList_load_mid rfl 62 (.tmp 14) rfl b2 (o2 + k * 2) rfl (txC x1) _ hy1 Try.underlying62 rfl (info_size infoTx) ?_)
        obtain ⟨xc, xa⟩ := x1
        obtain ⟨W1, hW1⟩ : ∃ W, W = wr.alloc (.cells #[.int .i64 xc, .int .i64 xa] 62) := ⟨_, rfl⟩
        have f1 : Fr (fun _ => False) wr W1 := by rw [hW1]; exact (Fr.refl _ wr).alloc _
        have hb1 : Blk W1 wr.heap.size 62 #[.int .i64 xc, .int .i64 xa] := by rw [hW1]; exact Blk.new wr _ _
        have HF2 := Lib.hid (HF.out.trans f1 (fun _ _ q => q))
        have hz2 := cp_cell hb1 1 (v := .int .i64 xa) rfl
        rw [← hW1]
        clear hW1 f1 hb1 hy1 hk0 hkm
        generalize hge : wr.heap.size = ge at *
        clear hge
        have hadd := HNX.out.2.2
        go_wp2_with fail
        refine ⟨⟨k + 1, by rw [HNX.out.1]; first | rfl | rw [HNX.out.2.2], by go_num, by have := HNX.out.2.1; omega, HF2⟩, ?_⟩
        simp [intOf]
        have := HNX.out.2.1
        omega
      · obtain rfl : k = n2 := by omega
        have hkk : ¬ (k : Int) < (k : Int) := by omega
        obtain rfl : z = S := by
          rw [HZ.out, hS, List.take_of_length_le (by rw [← HL.out.2.1]; exact Nat.le_refl _)]
          rfl
        clear hlt hS
        go_wp2_with fail
        go_ret
        exact ⟨rfl, HF.out⟩
set_option maxRecDepth 100000 in
set_option maxHeartbeats 4000000 in
theorem plivet_any {w : World} {v : Value} {t : TkD} (hv : TkV w v t) (hok : TkOk t) (hl : t.loc.size ≤ 1000) : Calls Try.prog 23 #[v] w fun e w' => e = .returned (.int .i64 (if mayT t = true then ((liveT t : Nat) : Int) else 0)) ∧ Fr (fun _ => False) w w' := by
  obtain ⟨z, hz⟩ : ∃ z, z = if mayT t = true then ((liveT t : Nat) : Int) else 0 := ⟨_, rfl⟩
  rw [← hz]
  have HZ := Lib.hid hz
  have HV := Lib.hid hv
  obtain ⟨sc, sx, se, rfl, a1, a2, a3⟩ := hv
  have HA := Lib.hid (And.intro a1 (And.intro a2 a3))
  obtain ⟨A1, n1, c1, e1, l1⟩ : ∃ A n c, sc = .slice A n c ∧ n = t.cps.length := by obtain ⟨A, c, e, _⟩ := a1.slice; exact ⟨A, _, c, e, rfl⟩
  obtain ⟨A2, n2, c2, e2, l2⟩ : ∃ A n c, sx = .slice A n c ∧ n = t.txs.length := by obtain ⟨A, c, e, _⟩ := a2.slice; exact ⟨A, _, c, e, rfl⟩
  obtain ⟨A3, n3, c3, e3, l3⟩ : ∃ A n c, se = .slice A n c ∧ n = t.his.length := by obtain ⟨A, c, e, _⟩ := a3.slice; exact ⟨A, _, c, e, rfl⟩
  subst e1 e2 e3
  have HL := Lib.hid (And.intro l1 (And.intro l2 l3))
  obtain ⟨W0, hW0⟩ : ∃ W, W = w.alloc (.cells (tkA t (.slice A1 n1 c1) (.slice A2 n2 c2) (.slice A3 n3 c3)) 27) := ⟨_, rfl⟩
  have HB : Hid (Fr (fun _ => False) w W0 ∧ Blk W0 w.heap.size 27 (tkA t (.slice A1 n1 c1) (.slice A2 n2 c2) (.slice A3 n3 c3)) ∧ W0.heap.size = w.heap.size + 1) := Lib.hid (by rw [hW0]; exact ⟨(Fr.refl _ w).alloc _, Blk.new w _ _, Array.size_push _⟩)
  have HQ := Lib.hid hW0
  have HMT := Lib.hid (fun W f => pmayt_any (w := W) (HV.out.keep0 f) hok hl)
  have HBL := Lib.hid HB.out.2.1
  clear a1 a2 a3 l1 l2 l3 hW0 hok hl hz
  go_enter Try.func23, Try.ntmps23
  go_upto_region 1 with fail
  rw [← HQ.out]
  clear HQ
  cases e0 : mayT t with
  | false =>
    rw [e0] at HMT
    obtain rfl : z = 0 := by rw [HZ.out, e0]; rfl
    go_wp2_with (refine wpList_load_mid rfl 27 (.tmp 1) rfl w.heap.size 0 rfl (tkA t (.slice A1 n1 c1) (.slice A2 n2 c2) (.slice A3 n3 c3)).toList _ (blk_range HBL.out) Try.underlying27 rfl infoTk ?_)
    refine (HMT.out _ HB.out.1).mono ?_
    rintro e w1 ⟨rfl, f1⟩
    have HF1 := Lib.hid (HB.out.1.trans f1 (fun _ _ q => q))
    clear f1
    go_wp2_with fail
    go_ret
    exact ⟨rfl, HF1.out⟩
  | true =>
    rw [e0] at HMT
    have HIN := Lib.hid (may_in e0)
    rw [e0, if_pos rfl] at HZ
    clear e0
    go_wp2_with (refine wpList_load_mid rfl 27 (.tmp 1) rfl w.heap.size 0 rfl (tkA t (.slice A1 n1 c1) (.slice A2 n2 c2) (.slice A3 n3 c3)).toList _ (blk_range HBL.out) Try.underlying27 rfl infoTk ?_)
    refine (HMT.out _ HB.out.1).mono ?_
    rintro e w1 ⟨rfl, f1⟩
    have HF1 := Lib.hid (HB.out.1.trans f1 (fun _ _ q => q))
    have HBL1 := Lib.hid (HBL.out.keep f1 (fun q => q))
    clear f1 HBL HMT
    have hx4 : w1.cell? ⟨w.heap.size, 3, none⟩ = some (.slice A1 n1 c1) := cp_cell HBL1.out 3 rfl
    have m2 : n1 ≤ 4 := by rw [HL.out.1]; exact HIN.out.1.2
    have H0 : Hid (Fr (fun _ => False) w w1) := HF1
    go_wp2_with fail
    clear hx4
    go_loopw [3, 12] (fun s x wr => ∃ k m : Nat, s = .int .i64 m ∧ x = .int .i64 k ∧ k ≤ n1 ∧ m ≤ k ∧ Hid (m = ((t.cps.take k).filter fun c => liveS c.st).length) ∧ Hid (Fr (fun _ => False) w wr)) (fun _ x _ => n1 - (intOf x).toNat)
    case atStart => exact ⟨0, 0, rfl, rfl, Nat.zero_le _, Nat.le_refl _, Lib.hid rfl, H0⟩
    case round =>
      clear H0
      obtain ⟨k, m, rfl, rfl, hk, hmk, HM, HF⟩ := hrel
      by_cases hlt : k < n1
      · obtain ⟨x1, hx⟩ : ∃ x, t.cps[k]? = some x := ⟨_, List.getElem?_eq_getElem (by rw [← HL.out.1]; exact hlt)⟩
        obtain ⟨b2, o2, cc2, e2, hc2⟩ := HA.out.1.cell hx
        injection e2 with e2 e2n e2c
        subst e2
        have hy1 : wr.rangeAt b2 (o2 + k * 6) (cpC x1) := fun j u hu => by have h5 := hc2 j u hu; exact (HF.out.cell (World.block_lt_of_cell? w _ h5) (fun q => q)).trans h5
        have hk0 : (0 : Int) ≤ (k : Int) := by omega
        have hkm : (k : Int) < (n1 : Int) := by omega
        have hnx : ((t.cps.take (k + 1)).filter fun c => liveS c.st).length = m + (if liveS x1.st = true then 1 else 0) := by
          rw [take_succ' hx, List.filter_append, List.length_append, ← HM.out]
          by_cases h : liveS x1.st = true
          · simp [h]
          · simp [h]
        have HNX := Lib.hid (And.intro hnx hlt)
        clear hx hc2 e2n e2c hlt hnx
        go_upto_region 7 with (refine wpList_load_mid rfl 49 (.tmp 14) rfl b2 (o2 + k * 6) rfl (cpC x1) _ hy1 Try.underlying49 rfl (info_size infoCp) ?_)
        obtain ⟨xfl, xdy, xva, xst, xho, xnx⟩ := x1
        obtain ⟨W1, hW1⟩ : ∃ W, W = wr.alloc (.cells #[.int .i64 xfl, .int .i64 xdy, .int .i64 xva, .int .i64 xst, .int .i64 xho, .int .u64 (xnx : Nat)] 49) := ⟨_, rfl⟩
        have f1 : Fr (fun _ => False) wr W1 := by rw [hW1]; exact (Fr.refl _ wr).alloc _
        have hb1 : Blk W1 wr.heap.size 49 #[.int .i64 xfl, .int .i64 xdy, .int .i64 xva, .int .i64 xst, .int .i64 xho, .int .u64 (xnx : Nat)] := by rw [hW1]; exact Blk.new wr _ _
        have HF2 := Lib.hid (HF.out.trans f1 (fun _ _ q => q))
        have hz3 := cp_cell hb1 3 (v := .int .i64 xst) rfl
        have HLV := Lib.hid (fun W => plive_any xst W)
        rw [← hW1]
        clear hW1 f1 hb1 hy1 hk0 hkm
        generalize hge : wr.heap.size = ge at *
        clear hge
        cases e1 : liveS xst with
        | true =>
          rw [e1] at HLV
          have HE1 := Lib.hid e1
          clear e1
          go_wp2_with fail
          refine (HLV.out _).mono ?_
          rintro e w2 ⟨rfl, rfl⟩
          go_wp2_with fail
          refine ⟨⟨k + 1, m + 1, by go_num, by go_num, by have := HNX.out.2; omega, by omega, Lib.hid (by rw [HNX.out.1, if_pos HE1.out]), HF2⟩, ?_⟩
          simp [intOf]
          have := HNX.out.2
          omega
        | false =>
          rw [e1] at HLV
          have HE1 := Lib.hid e1
          clear e1
          go_wp2_with fail
          refine (HLV.out _).mono ?_
          rintro e w2 ⟨rfl, rfl⟩
          go_wp2_with fail
          refine ⟨⟨k + 1, m, rfl, by go_num, by have := HNX.out.2; omega, by omega, Lib.hid (by rw [HNX.out.1, if_neg (by rw [HE1.out]; simp)]; rfl), HF2⟩, ?_⟩
          simp [intOf]
          have := HNX.out.2
          omega
      · obtain rfl : k = n1 := by omega
        have hkk : ¬ (k : Int) < (k : Int) := by omega
        obtain rfl : z = (m : Int) := by
          rw [HZ.out]
          have h5 := HM.out
          rw [List.take_of_length_le (by rw [← HL.out.1]; exact Nat.le_refl _)] at h5
          rw [h5]
          rfl
        clear hlt
        go_wp2_with fail
        go_ret
        exact ⟨rfl, HF.out⟩
end Go.Proofs.Ytmopkfjnjbimnaa
