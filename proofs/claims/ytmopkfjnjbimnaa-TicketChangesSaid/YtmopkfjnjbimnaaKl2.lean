/- The law TicketApart. -/
import Derived.Test.YtmopkfjnjbimnaaKqh
namespace Go.Proofs.Ytmopkfjnjbimnaa
open Go.RowKit

def Tru (w : World) (e : Ending) (w' : World) : Prop := e = .returned (.bool true) ∧ Fr (fun _ => False) w w'
theorem chg_small {t : TkD} (h : muchT t = false) (c d s : Int) (k : Nat) : (chgT t c d s k).cps.length ≤ 20 ∧ (chgT t c d s k).txs.length ≤ 20 ∧ (chgT t c d s k).his.length ≤ 101 := by
  unfold muchT at h
  simp only [Bool.or_eq_false_iff, decide_eq_false_iff_not] at h
  unfold chgT
  split
  · simp
    omega
  · simp [noTk]
theorem much_small {t : TkD} (h : muchT t = false) : t.cps.length ≤ 20 ∧ t.txs.length ≤ 20 ∧ t.his.length ≤ 100 ∧ t.loc.size ≤ 100 := by
  unfold muchT at h
  simp only [Bool.or_eq_false_iff, decide_eq_false_iff_not] at h
  omega
theorem then_short {t : TkD} (h : t.cps.length ≤ 20) (day : Int) : (if mayT t = true then (thenT t day).getD [] else []).length ≤ 100 := by
  split
  · rename_i hm
    obtain ⟨now, was, d, hE, hth⟩ := may_then hm day
    rw [hth]
    have := evsOn_len day _ _ _ hE
    show was.length ≤ 100
    have h2 : was.length = (List.replicate t.cps.length (1 : Int)).length := this.2
    rw [h2, List.length_replicate]
    omega
  · simp
set_option maxRecDepth 100000 in
set_option maxHeartbeats 16000000 in
theorem tapart {w : World} {v : Value} {t : TkD} (hv : TkV w v t) (hok : TkOk t) (sc sd st : Int) (sw : Nat) (hst : i64B st) (hsw : u64B sw) : Calls Try.prog 7 #[v, .agg #[.int .i64 sc, .int .i64 sd, .int .i64 st, .int .u64 (sw : Nat)]] w (Tru w) := by
  have HV := Lib.hid hv
  obtain ⟨q1, q2, q3, rfl, a1, a2, a3⟩ := hv
  obtain ⟨A1, n1, c1, e1⟩ : ∃ A n c, q1 = .slice A n c := by obtain ⟨A, c, e, _⟩ := a1.slice; exact ⟨A, _, c, e⟩
  obtain ⟨A2, n2, c2, e2⟩ : ∃ A n c, q2 = .slice A n c := by obtain ⟨A, c, e, _⟩ := a2.slice; exact ⟨A, _, c, e⟩
  obtain ⟨A3, n3, c3, e3⟩ : ∃ A n c, q3 = .slice A n c := by obtain ⟨A, c, e, _⟩ := a3.slice; exact ⟨A, _, c, e⟩
  subst e1 e2 e3
  have HT := Lib.hid hok
  have HSS := Lib.hid (And.intro hst hsw)
  obtain ⟨W0, hW0⟩ : ∃ W, W = (w.alloc (.cells (tkA t (.slice A1 n1 c1) (.slice A2 n2 c2) (.slice A3 n3 c3)) 27)).alloc (.cells #[.int .i64 sc, .int .i64 sd, .int .i64 st, .int .u64 (sw : Nat)] 43) := ⟨_, rfl⟩
  have HB : Hid (Fr (fun _ => False) w W0 ∧ Blk W0 w.heap.size 27 (tkA t (.slice A1 n1 c1) (.slice A2 n2 c2) (.slice A3 n3 c3)) ∧ Blk W0 (w.heap.size + 1) 43 #[.int .i64 sc, .int .i64 sd, .int .i64 st, .int .u64 (sw : Nat)]) := Lib.hid (by
    rw [hW0]
    have e9 : (w.alloc (.cells (tkA t (.slice A1 n1 c1) (.slice A2 n2 c2) (.slice A3 n3 c3)) 27)).heap.size = w.heap.size + 1 := Array.size_push _
    refine ⟨((Fr.refl _ w).alloc _).alloc _, (Blk.new w _ _).keep ((Fr.refl (fun _ => False) _).alloc _) (fun q => q), ?_⟩
    have := Blk.new (w.alloc (.cells (tkA t (.slice A1 n1 c1) (.slice A2 n2 c2) (.slice A3 n3 c3)) 27)) 43 #[.int .i64 sc, .int .i64 sd, .int .i64 st, .int .u64 (sw : Nat)]
    rwa [e9] at this)
  have HQ := Lib.hid hW0
  have HMU := Lib.hid (fun W f => rmuch_any (w := W) (HV.out.keep0 f))
  have HKN := Lib.hid (fun W => known_any W)
  clear a1 a2 a3 hW0 hok hst hsw
  go_enter Try.func7, Try.ntmps7
  go_upto_region 1 with fail
  rw [← HQ.out]
  clear HQ
  have HBL := Lib.hid HB.out.2.1
  cases e0 : muchT t with
  | true =>
    rw [e0] at HMU
    go_wp2_with (refine wpList_load_mid rfl 27 (.tmp 2) rfl w.heap.size 0 rfl (tkA t (.slice A1 n1 c1) (.slice A2 n2 c2) (.slice A3 n3 c3)).toList _ (blk_range (HBL.out)) Try.underlying27 rfl infoTk ?_)
    refine (HMU.out _ HB.out.1).mono ?_
    rintro e w1 ⟨rfl, f1⟩
    have HF1 := Lib.hid (HB.out.1.trans f1 (fun _ _ q => q))
    clear f1
    go_wp2_with fail
    refine (HKN.out _).mono ?_
    rintro e w2 ⟨rfl, f2⟩
    have HF2 := Lib.hid (HF1.out.trans f2 (fun _ _ q => q))
    clear f2
    go_wp2_with fail
    go_ret
    exact ⟨rfl, HF2.out⟩
  | false =>
    rw [e0] at HMU
    have HSM := Lib.hid (much_small e0)
    have HCP := Lib.hid (fun W f => rcopy_any (w := W) (HV.out.keep0 f) (by have := HSM.out; omega) (by have := HSM.out; omega) (by have := HSM.out; omega))
    have HCH := Lib.hid (fun W f => pchange_any (w := W) (HV.out.keep0 f) HT.out e0 sc sd st HSS.out.1 sw HSS.out.2)
    obtain ⟨R, hR⟩ : ∃ R, R = chgT t sc sd st sw := ⟨_, rfl⟩
    obtain ⟨E, hE⟩ : ∃ E, E = chgE t sc sd st sw := ⟨_, rfl⟩
    rw [← hR, ← hE] at HCH
    have HRS : Hid (R.cps.length ≤ 20 ∧ R.txs.length ≤ 20 ∧ R.his.length ≤ 101) := Lib.hid (by rw [hR]; exact chg_small e0 sc sd st sw)
    clear e0 hR hE
    go_wp2_with (refine wpList_load_mid rfl 27 (.tmp 2) rfl w.heap.size 0 rfl (tkA t (.slice A1 n1 c1) (.slice A2 n2 c2) (.slice A3 n3 c3)).toList _ (blk_range (HBL.out)) Try.underlying27 rfl infoTk ?_)
    refine (HMU.out _ HB.out.1).mono ?_
    rintro e w1 ⟨rfl, f1⟩
    have HF1 := Lib.hid f1
    have HBL1 := Lib.hid (HBL.out.keep f1 (fun q => q))
    clear f1 HMU HBL
    go_wp2_with (refine wpList_load_mid rfl 27 (.tmp 2) rfl w.heap.size 0 rfl (tkA t (.slice A1 n1 c1) (.slice A2 n2 c2) (.slice A3 n3 c3)).toList _ (blk_range (HBL1.out)) Try.underlying27 rfl infoTk ?_)
    refine (HCP.out _ (HB.out.1.trans HF1.out (fun _ _ q => q))).mono ?_
    rintro e w2 ⟨v2, rfl, ⟨s4, s5, s6, rfl, o4, o5, o6⟩, f2⟩
    obtain ⟨A4, n4, c4, ev4⟩ : ∃ A n c, s4 = .slice A n c := by obtain ⟨A, c, e, _⟩ := own_slice o4; exact ⟨A, _, c, e⟩
    obtain ⟨A5, n5, c5, ev5⟩ : ∃ A n c, s5 = .slice A n c := by obtain ⟨A, c, e, _⟩ := own_slice o5; exact ⟨A, _, c, e⟩
    obtain ⟨A6, n6, c6, ev6⟩ : ∃ A n c, s6 = .slice A n c := by obtain ⟨A, c, e, _⟩ := own_slice o6; exact ⟨A, _, c, e⟩
    subst ev4 ev5 ev6
    have HF2 := Lib.hid (HF1.out.trans f2 (fun _ _ q => q))
    have HOW : Hid (TkV w2 (tkC t (.slice A4 n4 c4) (.slice A5 n5 c5) (.slice A6 n6 c6)) t) := Lib.hid ⟨_, _, _, rfl, o4.rd cpC_len, o5.rd txC_len, o6.rd evC_len⟩
    clear f2 o4 o5 o6 HCP HBL1 HF1
    go_upto_region 4 with fail
    obtain ⟨W3, hW3⟩ : ∃ W, W = w2.alloc (.cells (tkA t (.slice A4 n4 c4) (.slice A5 n5 c5) (.slice A6 n6 c6)) 27) := ⟨_, rfl⟩
    obtain ⟨g5, hg5⟩ : ∃ g, g = w2.heap.size := ⟨_, rfl⟩
    have HW3 : Hid (Fr (fun _ => False) w2 W3 ∧ Blk W3 g5 27 (tkA t (.slice A4 n4 c4) (.slice A5 n5 c5) (.slice A6 n6 c6))) := Lib.hid (by rw [hW3, hg5]; exact ⟨(Fr.refl _ w2).alloc _, Blk.new w2 _ _⟩)
    have HF3 := Lib.hid (HF2.out.trans HW3.out.1 (fun _ _ q => q))
    have HBX3 := Lib.hid (HB.out.2.1.keep HF3.out (fun q => q))
    have hy0 : W3.cell? ⟨w.heap.size + 1, 0, none⟩ = some (.int .i64 sc) := cp_cell (HB.out.2.2.keep HF3.out (fun q => q)) 0 rfl
    have hy1 : W3.cell? ⟨w.heap.size + 1, 1, none⟩ = some (.int .i64 sd) := cp_cell (HB.out.2.2.keep HF3.out (fun q => q)) 1 rfl
    have hy2 : W3.cell? ⟨w.heap.size + 1, 2, none⟩ = some (.int .i64 st) := cp_cell (HB.out.2.2.keep HF3.out (fun q => q)) 2 rfl
    have hy3 : W3.cell? ⟨w.heap.size + 1, 3, none⟩ = some (.int .u64 (sw : Nat)) := cp_cell (HB.out.2.2.keep HF3.out (fun q => q)) 3 rfl
    rw [← hW3, ← hg5]
    clear hW3 hg5 HF2
    go_wp2_with (refine wpList_load_mid rfl 27 (.tmp 2) rfl w.heap.size 0 rfl (tkA t (.slice A1 n1 c1) (.slice A2 n2 c2) (.slice A3 n3 c3)).toList _ (blk_range (HBX3.out)) Try.underlying27 rfl infoTk ?_)
    clear hy0 hy1 hy2 hy3
    refine (HCH.out _ (HB.out.1.trans HF3.out (fun _ _ q => q))).mono ?_
    rintro e w4 ⟨v4, rfl, ⟨s7, s8, s9, rfl, o7, o8, o9⟩, f4⟩
    obtain ⟨A7, n7, c7, ev7⟩ : ∃ A n c, s7 = .slice A n c ∧ n = R.cps.length := by obtain ⟨A, c, e, _⟩ := own_slice o7; exact ⟨A, _, c, e, rfl⟩
    obtain ⟨A8, n8, c8, ev8⟩ : ∃ A n c, s8 = .slice A n c ∧ n = R.txs.length := by obtain ⟨A, c, e, _⟩ := own_slice o8; exact ⟨A, _, c, e, rfl⟩
    obtain ⟨A9, n9, c9, ev9⟩ : ∃ A n c, s9 = .slice A n c ∧ n = R.his.length := by obtain ⟨A, c, e, _⟩ := own_slice o9; exact ⟨A, _, c, e, rfl⟩
    obtain ⟨ev7, en7⟩ := ev7
    obtain ⟨ev8, en8⟩ := ev8
    obtain ⟨ev9, en9⟩ := ev9
    subst ev7 ev8 ev9
    have HN := Lib.hid (And.intro en7 (And.intro en8 en9))
    have HNB : Hid (n7 ≤ 200 ∧ n8 ≤ 200 ∧ n9 ≤ 200) := Lib.hid (by have := HRS.out; omega)
    obtain ⟨B6, hB6⟩ : ∃ B, B = W3.heap.size := ⟨_, rfl⟩
    rw [← hB6] at o7 o8 o9
    have HB6 : Hid (w2.heap.size ≤ B6 ∧ w.heap.size + 1 < B6 ∧ g5 < B6 ∧ w.heap.size ≤ B6 ∧ B6 = W3.heap.size) := Lib.hid ⟨by rw [hB6]; exact HW3.out.1.size, by rw [hB6]; exact (HB.out.2.2.keep HF3.out (fun q => q)).lt, by rw [hB6]; exact HW3.out.2.lt, by rw [hB6]; exact (HB.out.1.trans HF3.out (fun _ _ q => q)).size, hB6⟩
    have HO4 := Lib.hid (And.intro o7 (And.intro o8 o9))
    have HF4 := Lib.hid f4
    clear f4 o7 o8 o9 HCH hB6 en7 en8 en9
    go_upto_region 5 with fail
    obtain ⟨W5, hW5⟩ : ∃ W, W = w4.alloc (.cells (tkA R (.slice A7 n7 c7) (.slice A8 n8 c8) (.slice A9 n9 c9)) 27) := ⟨_, rfl⟩
    obtain ⟨g6, hg6⟩ : ∃ g, g = w4.heap.size := ⟨_, rfl⟩
    have HW5 : Hid (Fr (fun _ => False) w4 W5 ∧ Blk W5 g6 27 (tkA R (.slice A7 n7 c7) (.slice A8 n8 c8) (.slice A9 n9 c9))) := Lib.hid (by rw [hW5, hg6]; exact ⟨(Fr.refl _ w4).alloc _, Blk.new w4 _ _⟩)
    have HF5 := Lib.hid (HF4.out.trans HW5.out.1 (fun _ _ q => q))
    have HG6 : Hid (B6 ≤ g6) := Lib.hid (by rw [hg6, HB6.out.2.2.2.2]; exact HF4.out.size)
    rw [← hW5, ← hg6]
    clear hW5 hg6
    go_wp2_with fail
    have HI0 : Hid (Blk W5 g6 27 (tkA R (.slice A7 n7 c7) (.slice A8 n8 c8) (.slice A9 n9 c9)) ∧ Fr (fun b => B6 ≤ b) W3 W5) := Lib.hid ⟨HW5.out.2, Fr.mono HF5.out (fun _ _ q => q.elim)⟩
    have HR0 : Hid (RwO W5 B6 49 6 cpC (.slice A7 n7 c7) R.cps ∧ R.cps.length = n7) := Lib.hid ⟨HO4.out.1.keep0 HW5.out.1, HN.out.1.symm⟩
    have HS0 : Hid (RwO W5 B6 62 2 txC (.slice A8 n8 c8) R.txs ∧ R.txs.length = n8) := Lib.hid ⟨HO4.out.2.1.keep0 HW5.out.1, HN.out.2.1.symm⟩
    have HU0 : Hid (RwO W5 B6 51 4 evC (.slice A9 n9 c9) R.his ∧ R.his.length = n9) := Lib.hid ⟨HO4.out.2.2.keep0 HW5.out.1, HN.out.2.2.symm⟩
    clear HO4 HF4 HF5
    go_loopw [8] (fun x wr => ∃ (k : Nat) (lR : List CpD) (lS : List TxD) (lU : List EvT), x = .int .i64 k ∧ k ≤ n7 ∧ Hid (Blk wr g6 27 (tkA R (.slice A7 n7 c7) (.slice A8 n8 c8) (.slice A9 n9 c9)) ∧ Fr (fun b => B6 ≤ b) W3 wr) ∧ Hid (RwO wr B6 49 6 cpC (.slice A7 n7 c7) lR ∧ lR.length = n7) ∧ Hid (RwO wr B6 62 2 txC (.slice A8 n8 c8) lS ∧ lS.length = n8) ∧ Hid (RwO wr B6 51 4 evC (.slice A9 n9 c9) lU ∧ lU.length = n9)) (fun x _ => n7 - (intOf x).toNat)
    case atStart => exact ⟨0, _, _, _, rfl, Nat.zero_le _, HI0, HR0, HS0, HU0⟩
    case round =>
      clear HI0 HR0 HS0 HU0
      obtain ⟨k, lR, lS, lU, rfl, hk, HI0, HR0, HS0, HU0⟩ := hrel
      have hx6 : wr.cell? ⟨g6, 3, none⟩ = some (.slice A7 n7 c7) := cp_cell HI0.out.1 3 rfl
      have hnb := HNB.out
      by_cases hlt : k < n7
      · obtain ⟨y, hy⟩ : ∃ y, lR[k]? = some y := ⟨_, List.getElem?_eq_getElem (by rw [HR0.out.2]; exact hlt)⟩
        obtain ⟨g4, c9', cur, e9, hcur, hBg, -⟩ := rwo_get HR0.out.1 cpC_len hy
        injection e9 with e9 e9n e9c
        subst e9
        clear e9n e9c
        have hset := RwO.set HR0.out.1 cpC_len (m := k) noCp (by rw [HR0.out.2]; exact hlt)
        have hfx := fr_cells (F := fun b => b = g4) (a := wr) (b := g4) (.inl rfl) (cpC noCp) (k * 6) wr (Fr.refl _ _)
        obtain ⟨WN, hWN⟩ : ∃ W, W = wr.setCells g4 (k * 6) (cpC noCp) := ⟨_, rfl⟩
        have HTH := Lib.hid hset.1
        have HIN : Hid (Blk WN g6 27 (tkA R (.slice (some ⟨g4, 0, none⟩) n7 c7) (.slice A8 n8 c8) (.slice A9 n9 c9)) ∧ Fr (fun b => B6 ≤ b) W3 WN) := Lib.hid (by
          rw [hWN]
          refine ⟨HI0.out.1.keep hfx (fun q => ?_), HI0.out.2.trans hfx (fun b hb q => by have h6 : b = g4 := q; omega)⟩
          have h6 : g6 = g4 := q
          subst h6
          exact absurd (blk_apart HI0.out.1 hcur) (by decide))
        have HRN : Hid (RwO WN B6 49 6 cpC (.slice (some ⟨g4, 0, none⟩) n7 c7) (lR.set k noCp) ∧ (lR.set k noCp).length = n7) := Lib.hid ⟨by rw [hWN]; exact hset.2, by rw [List.length_set]; exact HR0.out.2⟩
        have HSN : Hid (RwO WN B6 62 2 txC (.slice A8 n8 c8) lS ∧ lS.length = n8) := Lib.hid ⟨by
          rw [hWN]
          refine HS0.out.1.keep hfx (fun b hb q => ?_)
          have h6 : b = g4 := q
          subst h6
          obtain ⟨_, k1⟩ := HS0.out.1.type hb
          exact absurd (blk_apart k1 hcur) (by decide), HS0.out.2⟩
        have HUN : Hid (RwO WN B6 51 4 evC (.slice A9 n9 c9) lU ∧ lU.length = n9) := Lib.hid ⟨by
          rw [hWN]
          refine HU0.out.1.keep hfx (fun b hb q => ?_)
          have h6 : b = g4 := q
          subst h6
          obtain ⟨_, k1⟩ := HU0.out.1.type hb
          exact absurd (blk_apart k1 hcur) (by decide), HU0.out.2⟩
        obtain ⟨l9, hl9⟩ : ∃ l, l = lR.set k noCp := ⟨_, rfl⟩
        rw [← hl9] at HRN
        have HQN := Lib.hid hWN
        have hk0 : (0 : Int) ≤ (k : Int) := by omega
        have hkm : (k : Int) < (n7 : Int) := by omega
        have HLT := Lib.hid hlt
        clear hy hset hfx hWN hcur hBg hlt hl9
        go_upto_region 7 with (refine wpList_store_mid rfl 49 (.tmp 42) (.tmp 41) rfl g4 (k * 6) (cpC noCp).toArray rfl rfl HTH.out (info_size infoCp) (by simp [Value.oneCell']) ?_)
        rw [← HQN.out]
        clear hx6 HTH HQN
        go_wp2_with fail
        refine ⟨⟨k + 1, l9, lS, lU, by go_num, by have := HLT.out; omega, HIN, HRN, HSN, HUN⟩, ?_⟩
        simp [intOf]
        have := HLT.out
        omega
      · obtain rfl : n7 = k := by omega
        have hkk : ¬ (n7 : Int) < (n7 : Int) := by omega
        clear hlt
        go_wp2_with fail
        clear hx6 hkk hnb hk
        generalize wr = wzR at *
        go_loopw [9] (fun x wr => ∃ (k : Nat) (lR : List CpD) (lS : List TxD) (lU : List EvT), x = .int .i64 k ∧ k ≤ n8 ∧ Hid (Blk wr g6 27 (tkA R (.slice A7 n7 c7) (.slice A8 n8 c8) (.slice A9 n9 c9)) ∧ Fr (fun b => B6 ≤ b) W3 wr) ∧ Hid (RwO wr B6 49 6 cpC (.slice A7 n7 c7) lR ∧ lR.length = n7) ∧ Hid (RwO wr B6 62 2 txC (.slice A8 n8 c8) lS ∧ lS.length = n8) ∧ Hid (RwO wr B6 51 4 evC (.slice A9 n9 c9) lU ∧ lU.length = n9)) (fun x _ => n8 - (intOf x).toNat)
        case atStart => exact ⟨0, _, _, _, rfl, Nat.zero_le _, HI0, HR0, HS0, HU0⟩
        case round =>
          clear HI0 HR0 HS0 HU0
          obtain ⟨k, lR, lS, lU, rfl, hk, HI0, HR0, HS0, HU0⟩ := hrel
          have hx6 : wr.cell? ⟨g6, 4, none⟩ = some (.slice A8 n8 c8) := cp_cell HI0.out.1 4 rfl
          have hnb := HNB.out
          by_cases hlt : k < n8
          · obtain ⟨y, hy⟩ : ∃ y, lS[k]? = some y := ⟨_, List.getElem?_eq_getElem (by rw [HS0.out.2]; exact hlt)⟩
            obtain ⟨g4, c9', cur, e9, hcur, hBg, -⟩ := rwo_get HS0.out.1 txC_len hy
            injection e9 with e9 e9n e9c
            subst e9
            clear e9n e9c
            have hset := RwO.set HS0.out.1 txC_len (m := k) noTx (by rw [HS0.out.2]; exact hlt)
            have hfx := fr_cells (F := fun b => b = g4) (a := wr) (b := g4) (.inl rfl) (txC noTx) (k * 2) wr (Fr.refl _ _)
            obtain ⟨WN, hWN⟩ : ∃ W, W = wr.setCells g4 (k * 2) (txC noTx) := ⟨_, rfl⟩
            have HTH := Lib.hid hset.1
            have HIN : Hid (Blk WN g6 27 (tkA R (.slice A7 n7 c7) (.slice (some ⟨g4, 0, none⟩) n8 c8) (.slice A9 n9 c9)) ∧ Fr (fun b => B6 ≤ b) W3 WN) := Lib.hid (by
              rw [hWN]
              refine ⟨HI0.out.1.keep hfx (fun q => ?_), HI0.out.2.trans hfx (fun b hb q => by have h6 : b = g4 := q; omega)⟩
              have h6 : g6 = g4 := q
              subst h6
              exact absurd (blk_apart HI0.out.1 hcur) (by decide))
            have HSN : Hid (RwO WN B6 62 2 txC (.slice (some ⟨g4, 0, none⟩) n8 c8) (lS.set k noTx) ∧ (lS.set k noTx).length = n8) := Lib.hid ⟨by rw [hWN]; exact hset.2, by rw [List.length_set]; exact HS0.out.2⟩
            have HRN : Hid (RwO WN B6 49 6 cpC (.slice A7 n7 c7) lR ∧ lR.length = n7) := Lib.hid ⟨by
              rw [hWN]
              refine HR0.out.1.keep hfx (fun b hb q => ?_)
              have h6 : b = g4 := q
              subst h6
              obtain ⟨_, k1⟩ := HR0.out.1.type hb
              exact absurd (blk_apart k1 hcur) (by decide), HR0.out.2⟩
            have HUN : Hid (RwO WN B6 51 4 evC (.slice A9 n9 c9) lU ∧ lU.length = n9) := Lib.hid ⟨by
              rw [hWN]
              refine HU0.out.1.keep hfx (fun b hb q => ?_)
              have h6 : b = g4 := q
              subst h6
              obtain ⟨_, k1⟩ := HU0.out.1.type hb
              exact absurd (blk_apart k1 hcur) (by decide), HU0.out.2⟩
            obtain ⟨l9, hl9⟩ : ∃ l, l = lS.set k noTx := ⟨_, rfl⟩
            rw [← hl9] at HSN
            have HQN := Lib.hid hWN
            have hk0 : (0 : Int) ≤ (k : Int) := by omega
            have hkm : (k : Int) < (n8 : Int) := by omega
            have HLT := Lib.hid hlt
            clear hy hset hfx hWN hcur hBg hlt hl9
            go_upto_region 11 with (refine wpList_store_mid rfl 62 (.tmp 54) (.tmp 53) rfl g4 (k * 2) (txC noTx).toArray rfl rfl HTH.out (info_size infoTx) (by simp [Value.oneCell']) ?_)
            rw [← HQN.out]
            clear hx6 HTH HQN
            go_wp2_with fail
            refine ⟨⟨k + 1, lR, l9, lU, by go_num, by have := HLT.out; omega, HIN, HRN, HSN, HUN⟩, ?_⟩
            simp [intOf]
            have := HLT.out
            omega
          · obtain rfl : n8 = k := by omega
            have hkk : ¬ (n8 : Int) < (n8 : Int) := by omega
            clear hlt
            go_wp2_with fail
            clear hx6 hkk hnb hk
            generalize wr = wzS at *
            go_loopw [10] (fun x wr => ∃ (k : Nat) (lR : List CpD) (lS : List TxD) (lU : List EvT), x = .int .i64 k ∧ k ≤ n9 ∧ Hid (Blk wr g6 27 (tkA R (.slice A7 n7 c7) (.slice A8 n8 c8) (.slice A9 n9 c9)) ∧ Fr (fun b => B6 ≤ b) W3 wr) ∧ Hid (RwO wr B6 49 6 cpC (.slice A7 n7 c7) lR ∧ lR.length = n7) ∧ Hid (RwO wr B6 62 2 txC (.slice A8 n8 c8) lS ∧ lS.length = n8) ∧ Hid (RwO wr B6 51 4 evC (.slice A9 n9 c9) lU ∧ lU.length = n9)) (fun x _ => n9 - (intOf x).toNat)
            case atStart => exact ⟨0, _, _, _, rfl, Nat.zero_le _, HI0, HR0, HS0, HU0⟩
            case round =>
              clear HI0 HR0 HS0 HU0
              obtain ⟨k, lR, lS, lU, rfl, hk, HI0, HR0, HS0, HU0⟩ := hrel
              have hx6 : wr.cell? ⟨g6, 10, none⟩ = some (.slice A9 n9 c9) := cp_cell HI0.out.1 10 rfl
              have hnb := HNB.out
              by_cases hlt : k < n9
              · obtain ⟨y, hy⟩ : ∃ y, lU[k]? = some y := ⟨_, List.getElem?_eq_getElem (by rw [HU0.out.2]; exact hlt)⟩
                obtain ⟨g4, c9', cur, e9, hcur, hBg, -⟩ := rwo_get HU0.out.1 evC_len hy
                injection e9 with e9 e9n e9c
                subst e9
                clear e9n e9c
                have hset := RwO.set HU0.out.1 evC_len (m := k) noEv (by rw [HU0.out.2]; exact hlt)
                have hfx := fr_cells (F := fun b => b = g4) (a := wr) (b := g4) (.inl rfl) (evC noEv) (k * 4) wr (Fr.refl _ _)
                obtain ⟨WN, hWN⟩ : ∃ W, W = wr.setCells g4 (k * 4) (evC noEv) := ⟨_, rfl⟩
                have HTH := Lib.hid hset.1
                have HIN : Hid (Blk WN g6 27 (tkA R (.slice A7 n7 c7) (.slice A8 n8 c8) (.slice (some ⟨g4, 0, none⟩) n9 c9)) ∧ Fr (fun b => B6 ≤ b) W3 WN) := Lib.hid (by
                  rw [hWN]
                  refine ⟨HI0.out.1.keep hfx (fun q => ?_), HI0.out.2.trans hfx (fun b hb q => by have h6 : b = g4 := q; omega)⟩
                  have h6 : g6 = g4 := q
                  subst h6
                  exact absurd (blk_apart HI0.out.1 hcur) (by decide))
                have HUN : Hid (RwO WN B6 51 4 evC (.slice (some ⟨g4, 0, none⟩) n9 c9) (lU.set k noEv) ∧ (lU.set k noEv).length = n9) := Lib.hid ⟨by rw [hWN]; exact hset.2, by rw [List.length_set]; exact HU0.out.2⟩
                have HRN : Hid (RwO WN B6 49 6 cpC (.slice A7 n7 c7) lR ∧ lR.length = n7) := Lib.hid ⟨by
                  rw [hWN]
                  refine HR0.out.1.keep hfx (fun b hb q => ?_)
                  have h6 : b = g4 := q
                  subst h6
                  obtain ⟨_, k1⟩ := HR0.out.1.type hb
                  exact absurd (blk_apart k1 hcur) (by decide), HR0.out.2⟩
                have HSN : Hid (RwO WN B6 62 2 txC (.slice A8 n8 c8) lS ∧ lS.length = n8) := Lib.hid ⟨by
                  rw [hWN]
                  refine HS0.out.1.keep hfx (fun b hb q => ?_)
                  have h6 : b = g4 := q
                  subst h6
                  obtain ⟨_, k1⟩ := HS0.out.1.type hb
                  exact absurd (blk_apart k1 hcur) (by decide), HS0.out.2⟩
                obtain ⟨l9, hl9⟩ : ∃ l, l = lU.set k noEv := ⟨_, rfl⟩
                rw [← hl9] at HUN
                have HQN := Lib.hid hWN
                have hk0 : (0 : Int) ≤ (k : Int) := by omega
                have hkm : (k : Int) < (n9 : Int) := by omega
                have HLT := Lib.hid hlt
                clear hy hset hfx hWN hcur hBg hlt hl9
                go_upto_region 15 with (refine wpList_store_mid rfl 51 (.tmp 66) (.tmp 65) rfl g4 (k * 4) (evC noEv).toArray rfl rfl HTH.out (info_size infoEv) (by simp [Value.oneCell']) ?_)
                rw [← HQN.out]
                clear hx6 HTH HQN
                go_wp2_with fail
                refine ⟨⟨k + 1, lR, lS, l9, by go_num, by have := HLT.out; omega, HIN, HRN, HSN, HUN⟩, ?_⟩
                simp [intOf]
                have := HLT.out
                omega
              · obtain rfl : n9 = k := by omega
                have hkk : ¬ (n9 : Int) < (n9 : Int) := by omega
                clear hlt
                generalize wr = wzU at *
                have HBZ := Lib.hid (HBX3.out.keep HI0.out.2 (fun q => by have h6 : B6 ≤ w.heap.size := q; have := HB6.out; omega))
                have hd1 : wzU.cell? ⟨w.heap.size + 1, 1, none⟩ = some (.int .i64 sd) := cp_cell ((HB.out.2.2.keep HF3.out (fun q => q)).keep HI0.out.2 (fun q => by have h6 : B6 ≤ w.heap.size + 1 := q; have := HB6.out; omega)) 1 rfl
                have HVZ : Hid (∀ W, Fr (fun b => B6 ≤ b) W3 W → TkV W (tkC t (.slice A1 n1 c1) (.slice A2 n2 c2) (.slice A3 n3 c3)) t) := Lib.hid (fun W f => (HV.out.keep0 (HB.out.1.trans HF3.out (fun _ _ q => q))).keepS f (fun b hb q => by have h6 : B6 ≤ b := q; have := HB6.out; omega))
                have HOZ : Hid (∀ W, Fr (fun b => B6 ≤ b) W3 W → TkV W (tkC t (.slice A4 n4 c4) (.slice A5 n5 c5) (.slice A6 n6 c6)) t) := Lib.hid (fun W f => (HOW.out.keep0 HW3.out.1).keepS f (fun b hb q => by have h6 : B6 ≤ b := q; have := HB6.out; omega))
                go_wp2_with (refine wpList_load_mid rfl 27 (.tmp 2) rfl w.heap.size 0 rfl (tkA t (.slice A1 n1 c1) (.slice A2 n2 c2) (.slice A3 n3 c3)).toList _ (blk_range (HBZ.out)) Try.underlying27 rfl infoTk ?_)
                clear hd1 hx6 hkk hnb hk
                refine (pat_any (HVZ.out _ HI0.out.2) HT.out (by have := HSM.out; omega) sd).mono ?_
                rintro e w7 ⟨u, rfl, hu, f7⟩
                obtain ⟨L, hL⟩ : ∃ L, L = (if mayT t = true then (thenT t sd).getD [] else []) := ⟨_, rfl⟩
                rw [← hL] at hu
                obtain ⟨Au, nu, cu, eu, enu⟩ : ∃ A n c, u = .slice A n c ∧ n = L.length := by obtain ⟨A, c, e, _⟩ := own_slice hu; exact ⟨A, _, c, e, rfl⟩
                subst eu
                obtain ⟨B7, hB7⟩ : ∃ B, B = wzU.heap.size := ⟨_, rfl⟩
                rw [← hB7] at hu
                have HB7 : Hid (B6 ≤ B7) := Lib.hid (by rw [hB7, HB6.out.2.2.2.2]; exact HI0.out.2.size)
                have HF7 := Lib.hid (HI0.out.2.trans f7 (fun _ _ q => q.elim))
                have HU7 : Hid (RowS w7 B7 (.slice Au nu cu) L ∧ L.length = nu) := Lib.hid ⟨hu, enu.symm⟩
                have HNU : Hid (nu ≤ 100) := Lib.hid (by rw [enu, hL]; exact then_short HSM.out.1 sd)
                clear hu f7 hB7 hL enu
                go_wp2_with fail
                go_loopw [12] (fun x wr => ∃ (k : Nat) (lz : List Int), x = .int .i64 k ∧ k ≤ nu ∧ Hid (RowS wr B7 (.slice Au nu cu) lz ∧ lz.length = nu) ∧ Hid (Fr (fun b => B6 ≤ b) W3 wr)) (fun x _ => nu - (intOf x).toNat)
                case atStart => exact ⟨0, _, rfl, Nat.zero_le _, HU7, HF7⟩
                case round =>
                  clear HU7 HF7
                  obtain ⟨k, lz, rfl, hk, HU7, HF7⟩ := hrel
                  have hnb := HNU.out
                  by_cases hlt : k < nu
                  · obtain ⟨y, hy⟩ : ∃ y, lz[k]? = some y := ⟨_, List.getElem?_eq_getElem (by rw [HU7.out.2]; exact hlt)⟩
                    obtain ⟨g9, cap9, e9, hc9⟩ := HU7.out.1.cell hy
                    injection e9 with e9 e9n e9c
                    subst e9
                    clear e9n e9c
                    have hfz := HU7.out.1.frozen (i := k)
                    have HS5 : Hid (RowS (wr.setCell ⟨g9, k, none⟩ (.int .i64 0)) B7 (.slice (some ⟨g9, 0, none⟩) nu cu) (lz.set k 0) ∧ (lz.set k 0).length = nu) := Lib.hid ⟨HU7.out.1.set (by rw [HU7.out.2]; exact hlt) 0, by rw [List.length_set]; exact HU7.out.2⟩
                    have HF5 : Hid (Fr (fun b => B6 ≤ b) W3 (wr.setCell ⟨g9, k, none⟩ (.int .i64 0))) := Lib.hid (HF7.out.setCell (.inl (by have := HU7.out.1.low (k := g9) rfl; have := HB7.out; show B6 ≤ g9; omega)) _)
                    have hk0 : (0 : Int) ≤ (k : Int) := by omega
                    have hkm : (k : Int) < (nu : Int) := by omega
                    have HLT := Lib.hid hlt
                    clear hy hlt
                    go_wp2_with fail
                    refine ⟨⟨k + 1, _, by go_num, by have := HLT.out; omega, HS5, HF5⟩, ?_⟩
                    simp [intOf]
                    have := HLT.out
                    omega
                  · obtain rfl : k = nu := by omega
                    have hkk : ¬ (k : Int) < (k : Int) := by omega
                    clear hlt
                    have HBZ9 := Lib.hid (HBX3.out.keep HF7.out (fun q => by have h6 : B6 ≤ w.heap.size := q; have := HB6.out; omega))
                    have HBZ5 := Lib.hid (HW3.out.2.keep HF7.out (fun q => by have h6 : B6 ≤ g5 := q; have := HB6.out; omega))
                    have HSA := Lib.hid (rsame_any (HVZ.out _ HF7.out) (HOZ.out _ HF7.out))
                    rw [decide_eq_true rfl] at HSA
                    go_wp2_with (first
                      | (refine wpList_load_mid rfl 27 (.tmp 2) rfl w.heap.size 0 rfl (tkA t (.slice A1 n1 c1) (.slice A2 n2 c2) (.slice A3 n3 c3)).toList _ (blk_range (HBZ9.out)) Try.underlying27 rfl infoTk ?_)
                      | (refine wpList_load_mid rfl 27 (.tmp 5) rfl g5 0 rfl (tkA t (.slice A4 n4 c4) (.slice A5 n5 c5) (.slice A6 n6 c6)).toList _ (blk_range HBZ5.out) Try.underlying27 rfl infoTk ?_))
                    refine HSA.out.mono ?_
                    rintro e w8 ⟨rfl, f8⟩
                    have HF8 := Lib.hid ((HB.out.1.trans HF3.out (fun _ _ q => q)).trans (HF7.out.trans f8 (fun _ _ q => q.elim)) (fun b hb q => by have h6 : B6 ≤ b := q; have := HB6.out; omega))
                    clear f8
                    go_wp2_with fail
                    refine (HKN.out _).mono ?_
                    rintro e w9 ⟨rfl, f9⟩
                    have HF9 := Lib.hid (HF8.out.trans f9 (fun _ _ q => q))
                    clear f9
                    go_wp2_with fail
                    go_ret
                    exact ⟨rfl, HF9.out⟩
end Go.Proofs.Ytmopkfjnjbimnaa
