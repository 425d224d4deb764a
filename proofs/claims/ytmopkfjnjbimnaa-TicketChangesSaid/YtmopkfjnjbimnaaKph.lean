/- ticket's tells, May. -/
import Derived.Test.YtmopkfjnjbimnaaKpg
namespace Go.Proofs.Ytmopkfjnjbimnaa
open Go.RowKit

theorem TkV.keepS {w w' : World} {v : Value} {t : TkD} (h : TkV w v t) {F : Nat → Prop} (f : Fr F w w') (hF : ∀ b, b < w.heap.size → ¬ F b) : TkV w' v t := by
  obtain ⟨sc, sx, se, rfl, h1, h2, h3⟩ := h
  exact ⟨sc, sx, se, rfl, h1.keepS (fun x => by rw [cpC_len]; omega) f hF, h2.keepS (fun x => by rw [txC_len]; omega) f hF, h3.keepS (fun x => by rw [evC_len]; omega) f hF⟩
def tellsB (t : TkD) : Bool := decide (t.his.length ≤ 60) && (thenT t 0).isSome
theorem then_st0 (t : TkD) (till : Int) : thenT t till = match evsOn till (st0 t t.cps.length) t.his with | some (now, was, _) => if now = t.cps.map CpD.st then some was else none | none => none := rfl
set_option maxRecDepth 100000 in
set_option maxHeartbeats 8000000 in
theorem ptells_any {w : World} {v : Value} {t : TkD} (hv : TkV w v t) (hn : 1 ≤ t.cps.length ∧ t.cps.length ≤ 4) : Calls Try.prog 45 #[v] w fun e w' => e = .returned (.bool (tellsB t)) ∧ Fr (fun _ => False) w w' := by
  obtain ⟨r, hr⟩ : ∃ r, r = tellsB t := ⟨_, rfl⟩
  rw [← hr]
  have HR := Lib.hid hr
  have HV := Lib.hid hv
  obtain ⟨sc, sx, se, rfl, a1, a2, a3⟩ := hv
  have HA := Lib.hid (And.intro a1 (And.intro a2 a3))
  obtain ⟨A1, n1, c1, e1, l1⟩ : ∃ A n c, sc = .slice A n c ∧ n = t.cps.length := by obtain ⟨A, c, e, _⟩ := a1.slice; exact ⟨A, _, c, e, rfl⟩
  obtain ⟨A2, n2, c2, e2, l2⟩ : ∃ A n c, sx = .slice A n c ∧ n = t.txs.length := by obtain ⟨A, c, e, _⟩ := a2.slice; exact ⟨A, _, c, e, rfl⟩
  obtain ⟨A3, n3, c3, e3, l3⟩ : ∃ A n c, se = .slice A n c ∧ n = t.his.length := by obtain ⟨A, c, e, _⟩ := a3.slice; exact ⟨A, _, c, e, rfl⟩
  subst e1 e2 e3
  have HL := Lib.hid (And.intro l1 (And.intro l2 l3))
  obtain ⟨W0, hW0⟩ : ∃ W, W = w.alloc (.cells (tkA t (.slice A1 n1 c1) (.slice A2 n2 c2) (.slice A3 n3 c3)) 27) := ⟨_, rfl⟩
  have HB : Hid (Fr (fun _ => False) w W0 ∧ Blk W0 w.heap.size 27 (tkA t (.slice A1 n1 c1) (.slice A2 n2 c2) (.slice A3 n3 c3)) ∧ W0.heap.size = w.heap.size + 1) := Lib.hid (by rw [hW0]; exact ⟨(Fr.refl _ w).alloc _, Blk.new w _ _, Array.size_push _⟩)
  have HQ := Lib.hid hW0
  have hx10 : W0.cell? ⟨w.heap.size, 10, none⟩ = some (.slice A3 n3 c3) := cp_cell HB.out.2.1 10 rfl
  have hx2 : W0.cell? ⟨w.heap.size, 2, none⟩ = some (.int .i64 t.iss) := cp_cell HB.out.2.1 2 rfl
  have HN : Hid (n1 = 1 ∨ n1 = 2 ∨ n1 = 3 ∨ n1 = 4) := Lib.hid (by omega)
  clear a1 a2 a3 l1 l2 l3 hW0 hn hr
  by_cases g0 : n3 ≤ 60
  · have q0 : ¬ (60 : Int) < (n3 : Int) := by omega
    have HN3 : Hid (n3 ≤ 1000) := Lib.hid (by omega)
    have HG : Hid (n3 ≤ 60) := Lib.hid g0
    obtain ⟨W1, hW1⟩ : ∃ W, W = W0.alloc (.cells #[.int .i64 t.iss] 3) := ⟨_, rfl⟩
    have HB1 : Hid (Fr (fun _ => False) W0 W1 ∧ Blk W1 W0.heap.size 3 #[.int .i64 t.iss]) := Lib.hid (by rw [hW1]; exact ⟨(Fr.refl _ W0).alloc _, Blk.new W0 _ _⟩)
    have HF1 := Lib.hid (HB.out.1.trans HB1.out.1 (fun _ _ q => q))
    have HBT := Lib.hid (HB.out.2.1.keep HB1.out.1 (fun q => q))
    have HQ1 := Lib.hid hW1
    have HNE : Hid (w.heap.size < W0.heap.size) := Lib.hid (by rw [HB.out.2.2]; omega)
    have HBE := Lib.hid (pbeh_t (w := W1) (t := t) (gl := W0.heap.size) (gt := w.heap.size) (n1 := n1) (n2 := n2) (n3 := n3) (c1 := c1) (c2 := c2) (c3 := c3) (A1 := A1) (A2 := A2) (A3 := A3)
      (fun W f => HV.out.keepS ((Fr.mono HF1.out (G := fun b => b = W0.heap.size) (fun _ _ q => q.elim)).trans f (fun _ _ q => q)) (fun b hb q => by have h6 : b = W0.heap.size := q; have := HNE.out; omega)) HBT.out HB1.out.2 (by have := HNE.out; omega) HN.out HN3.out)
    obtain ⟨E, hE⟩ : ∃ E, E = evsOn 0 (st0 t n1) t.his := ⟨_, rfl⟩
    rw [← hE] at HBE
    have hrE : r = (E.map (fun q => decide (q.1 = t.cps.map CpD.st))).getD false := by
      rw [HR.out]
      unfold tellsB
      rw [← HL.out.2.2, decide_eq_true HG.out, Bool.true_and, then_st0, ← HL.out.1, ← hE]
      cases E with
      | none => rfl
      | some q =>
        obtain ⟨now, was, d⟩ := q
        simp only
        by_cases h : now = t.cps.map CpD.st
        · rw [if_pos h]; simp [h]
        · rw [if_neg h]; simp [h]
    have HRE := Lib.hid hrE
    clear hrE hE hW1 g0
    cases E with
    | none =>
      obtain rfl : r = false := HRE.out
      go_enter Try.func45, Try.ntmps45
      go_upto_region 1 with fail
      rw [← HQ.out]
      clear HQ
      go_upto_region 4 with fail
      rw [← HQ1.out]
      clear HQ1
      go_wp2_with (refine wpList_load_mid rfl 27 (.tmp 1) rfl w.heap.size 0 rfl (tkA t (.slice A1 n1 c1) (.slice A2 n2 c2) (.slice A3 n3 c3)).toList _ (blk_range (HBT.out)) Try.underlying27 rfl infoTk ?_)
      refine HBE.out.mono ?_
      rintro e w2 ⟨va, rfl, -, f2⟩
      have HF2 : Hid (Fr (fun _ => False) w w2) := Lib.hid (HF1.out.trans f2 (fun b hb q => by have h6 : b = W0.heap.size := q; have := HNE.out; omega))
      clear f2
      go_wp2_with fail
      go_ret
      exact ⟨rfl, HF2.out⟩
    | some q =>
      obtain ⟨now, was, d⟩ := q
      have hp : r = decide (now = t.cps.map CpD.st) := HRE.out
      have HP := Lib.hid hp
      clear hp
      go_enter Try.func45, Try.ntmps45
      go_upto_region 1 with fail
      rw [← HQ.out]
      clear HQ
      go_upto_region 4 with fail
      rw [← HQ1.out]
      clear HQ1
      go_wp2_with (refine wpList_load_mid rfl 27 (.tmp 1) rfl w.heap.size 0 rfl (tkA t (.slice A1 n1 c1) (.slice A2 n2 c2) (.slice A3 n3 c3)).toList _ (blk_range (HBT.out)) Try.underlying27 rfl infoTk ?_)
      refine HBE.out.mono ?_
      rintro e w2 ⟨va, rfl, hva, f2⟩
      have hva2 := hva.out now was d rfl
      have HF2 : Hid (Fr (fun _ => False) w w2) := Lib.hid (HF1.out.trans f2 (fun b hb q => by have h6 : b = W0.heap.size := q; have := HNE.out; omega))
      have hx3 : w2.cell? ⟨w.heap.size, 3, none⟩ = some (.slice A1 n1 c1) := cp_cell (HBT.out.keep f2 (fun q => by have h6 : w.heap.size = W0.heap.size := q; have := HNE.out; omega)) 3 rfl
      have HEQ := Lib.hid (peqf_any (w := w2) (HA.out.1.keep0 HF2.out) hva2 (by rw [← HL.out.1]; have := HN.out; omega))
      clear f2 hva hva2
      rw [← HP.out] at HEQ
      clear HR HRE HP
      go_wp2_with fail
      refine HEQ.out.mono ?_
      rintro e w3 ⟨rfl, f3⟩
      have HF3 := Lib.hid (HF2.out.trans f3 (fun _ _ q => q))
      clear f3
      go_wp2_with fail
      go_ret
      exact ⟨rfl, HF3.out⟩
  · have q0 : (60 : Int) < (n3 : Int) := by omega
    obtain rfl : r = false := by rw [HR.out]; unfold tellsB; rw [← HL.out.2.2, decide_eq_false g0]; rfl
    clear g0
    go_enter Try.func45, Try.ntmps45
    go_upto_region 1 with fail
    rw [← HQ.out]
    clear HQ
    go_wp2_with fail
    go_ret
    exact ⟨rfl, HB.out.1⟩
theorem mayT_eq (t : TkD) : mayT t = (numB t.num && locB t.loc.data.toList && dayB t.iss && (numB t.fst && chainB t) && countsB t && coupsB t && taxesB t.txs && tellsB t) := by
  unfold mayT headB sizeB countsB coupsB taxesB tellsB
  generalize numB t.num = a
  generalize locB t.loc.data.toList = b
  generalize dayB t.iss = c
  generalize numB t.fst = d
  generalize chainB t = e
  generalize t.cps.all (cpB t.num) = f
  generalize txsB 0 t.txs = g
  generalize (thenT t 0).isSome = h
  rw [Bool.eq_iff_iff]
  simp only [Bool.and_eq_true, decide_eq_true_eq]
  constructor
  · rintro ⟨⟨⟨⟨⟨⟨⟨⟨⟨⟨h1, h2⟩, h3⟩, h4⟩, h5⟩, h6⟩, h7⟩, h8⟩, h9⟩, h10⟩, h11⟩
    exact ⟨⟨⟨⟨⟨⟨⟨h1, h2⟩, h3⟩, h4, h7⟩, ⟨⟨h5.1, h5.2⟩, h6.1⟩, h6.2⟩, ⟨h8.1, h8.2.1⟩, h9⟩, h8.2.2.1, h10⟩, h8.2.2.2, h11⟩
  · rintro ⟨⟨⟨⟨⟨⟨⟨h1, h2⟩, h3⟩, h4, h7⟩, ⟨⟨h5, h5'⟩, h6⟩, h6'⟩, ⟨h8, h8'⟩, h9⟩, h8b, h10⟩, h8c, h11⟩
    exact ⟨⟨⟨⟨⟨⟨⟨⟨⟨⟨h1, h2⟩, h3⟩, h4⟩, h5, h5'⟩, h6, h6'⟩, h7⟩, h8, h8', h8b, h8c⟩, h9⟩, h10⟩, h11⟩
set_option maxRecDepth 100000 in
set_option maxHeartbeats 8000000 in
theorem pmayt_any {w : World} {v : Value} {t : TkD} (hv : TkV w v t) (hok : TkOk t) (hl : t.loc.size ≤ 1000) : Calls Try.prog 13 #[v] w fun e w' => e = .returned (.bool (mayT t)) ∧ Fr (fun _ => False) w w' := by
  obtain ⟨r, hr⟩ : ∃ r, r = mayT t := ⟨_, rfl⟩
  rw [← hr]
  rw [mayT_eq] at hr
  have HR := Lib.hid hr
  have HT := Lib.hid hok
  have HV := Lib.hid hv
  obtain ⟨sc, sx, se, rfl, a1, a2, a3⟩ := hv
  have HA := Lib.hid (And.intro a1 (And.intro a2 a3))
  obtain ⟨A1, n1, c1, e1, l1⟩ : ∃ A n c, sc = .slice A n c ∧ n = t.cps.length := by obtain ⟨A, c, e, _⟩ := a1.slice; exact ⟨A, _, c, e, rfl⟩
  obtain ⟨A2, n2, c2, e2, l2⟩ : ∃ A n c, sx = .slice A n c ∧ n = t.txs.length := by obtain ⟨A, c, e, _⟩ := a2.slice; exact ⟨A, _, c, e, rfl⟩
  obtain ⟨A3, n3, c3, e3, l3⟩ : ∃ A n c, se = .slice A n c ∧ n = t.his.length := by obtain ⟨A, c, e, _⟩ := a3.slice; exact ⟨A, _, c, e, rfl⟩
  subst e1 e2 e3
  have HL := Lib.hid (And.intro l1 (And.intro l2 l3))
  obtain ⟨W0, hW0⟩ : ∃ W, W = w.alloc (.cells (tkA t (.slice A1 n1 c1) (.slice A2 n2 c2) (.slice A3 n3 c3)) 27) := ⟨_, rfl⟩
  have HB : Hid (Fr (fun _ => False) w W0 ∧ Blk W0 w.heap.size 27 (tkA t (.slice A1 n1 c1) (.slice A2 n2 c2) (.slice A3 n3 c3)) ∧ W0.heap.size = w.heap.size + 1) := Lib.hid (by rw [hW0]; exact ⟨(Fr.refl _ w).alloc _, Blk.new w _ _, Array.size_push _⟩)
  have HQ := Lib.hid hW0
  have HNU := Lib.hid (fun W => ncheck_any t.num hok.num W)
  obtain ⟨k, hk⟩ : ∃ k, k = chkE t.num := ⟨_, rfl⟩
  have hnb : numB t.num = decide (k = 0) := by unfold numB; rw [hk]
  rw [← hk] at HNU
  rw [hnb] at HR
  have HLO := Lib.hid (fun W => nlocator_any t.loc W hl)
  have HDA := Lib.hid (fun W => pday_any t.iss W)
  have HCH := Lib.hid (fun W f => pchain_any (w := W) (HV.out.keep0 f) hok)
  have HCO := Lib.hid (fun W f => pcounts_any (w := W) (HV.out.keep0 f))
  have HCP := Lib.hid (fun W f => pcoups_any (w := W) (HV.out.keep0 f) hok)
  have HTX := Lib.hid (fun W f => ptaxes_any (w := W) (HA.out.2.1.keep0 f))
  have HTL := Lib.hid (fun W f hn => ptells_any (w := W) (HV.out.keep0 f) hn)
  have hx0 : W0.cell? ⟨w.heap.size, 0, none⟩ = some (.int .u64 (t.num : Nat)) := cp_cell HB.out.2.1 0 rfl
  have hx1 : W0.cell? ⟨w.heap.size, 1, none⟩ = some (.string t.loc) := cp_cell HB.out.2.1 1 rfl
  have HF0 : Hid (Fr (fun _ => False) W0 W0) := Lib.hid (Fr.refl _ _)
  clear a1 a2 a3 l1 l2 l3 hW0 hok hl hr hk hnb
  go_enter Try.func13, Try.ntmps13
  go_upto_region 1 with fail
  rw [← HQ.out]
  clear HQ
  by_cases g0 : k = 0
  · have b0 : ((k : Int) == 0) = true := by rw [beq_iff_eq]; omega
    go_wp2_with fail
    refine (HNU.out _).mono ?_
    rintro e w1 ⟨rfl, rfl⟩
    cases g1 : locB t.loc.data.toList with
    | false =>
      rw [g1] at HLO
      go_wp2_with fail
      refine (HLO.out _).mono ?_
      rintro e wx1 ⟨rfl, f1⟩
      have HF1 := Lib.hid (HF0.out.trans f1 (fun _ _ q => q))
      clear f1
      obtain rfl : r = false := by rw [HR.out]; simp [g1]
      go_wp2_with fail
      go_ret
      exact ⟨rfl, HB.out.1.trans HF1.out (fun _ _ q => q)⟩
    | true =>
      rw [g1] at HLO
      go_wp2_with fail
      refine (HLO.out _).mono ?_
      rintro e wx1 ⟨rfl, f1⟩
      have HF1 := Lib.hid (HF0.out.trans f1 (fun _ _ q => q))
      clear f1
      have hy2 : wx1.cell? ⟨w.heap.size, 2, none⟩ = some (.int .i64 t.iss) := cp_cell (HB.out.2.1.keep HF1.out (fun q => q)) 2 rfl
      cases g2 : dayB t.iss with
      | false =>
        rw [g2] at HDA
        go_wp2_with fail
        refine (HDA.out _).mono ?_
        rintro e w1 ⟨rfl, rfl⟩
        clear hy2
        obtain rfl : r = false := by rw [HR.out]; simp [g2]
        go_wp2_with fail
        go_ret
        exact ⟨rfl, HB.out.1.trans HF1.out (fun _ _ q => q)⟩
      | true =>
        rw [g2] at HDA
        go_wp2_with fail
        refine (HDA.out _).mono ?_
        rintro e w1 ⟨rfl, rfl⟩
        clear hy2
        cases g3 : (numB t.fst && chainB t) with
        | false =>
          rw [g3] at HCH
          have HBL := Lib.hid (HB.out.2.1.keep HF1.out (fun q => q))
          go_wp2_with (refine wpList_load_want (by rfl) 27 (.tmp 1) rfl w.heap.size 0 rfl (tkA t (.slice A1 n1 c1) (.slice A2 n2 c2) (.slice A3 n3 c3)).toList _ (blk_range (HBL.out)) Try.underlying27 rfl infoTk ?_)
          refine (HCH.out _ (HB.out.1.trans HF1.out (fun _ _ q => q))).mono ?_
          rintro e wx2 ⟨rfl, f1⟩
          have HF2 := Lib.hid (HF1.out.trans f1 (fun _ _ q => q))
          clear f1
          clear HBL
          obtain rfl : r = false := by rw [HR.out]; simp [g3]
          go_wp2_with fail
          go_ret
          exact ⟨rfl, HB.out.1.trans HF2.out (fun _ _ q => q)⟩
        | true =>
          rw [g3] at HCH
          have HBL := Lib.hid (HB.out.2.1.keep HF1.out (fun q => q))
          go_wp2_with (refine wpList_load_want (by rfl) 27 (.tmp 1) rfl w.heap.size 0 rfl (tkA t (.slice A1 n1 c1) (.slice A2 n2 c2) (.slice A3 n3 c3)).toList _ (blk_range (HBL.out)) Try.underlying27 rfl infoTk ?_)
          refine (HCH.out _ (HB.out.1.trans HF1.out (fun _ _ q => q))).mono ?_
          rintro e wx2 ⟨rfl, f1⟩
          have HF2 := Lib.hid (HF1.out.trans f1 (fun _ _ q => q))
          clear f1
          clear HBL
          cases g4 : countsB t with
          | false =>
            rw [g4] at HCO
            have HBL := Lib.hid (HB.out.2.1.keep HF2.out (fun q => q))
            go_wp2_with (refine wpList_load_want (by rfl) 27 (.tmp 1) rfl w.heap.size 0 rfl (tkA t (.slice A1 n1 c1) (.slice A2 n2 c2) (.slice A3 n3 c3)).toList _ (blk_range (HBL.out)) Try.underlying27 rfl infoTk ?_)
            refine (HCO.out _ (HB.out.1.trans HF2.out (fun _ _ q => q))).mono ?_
            rintro e wx3 ⟨rfl, f1⟩
            have HF3 := Lib.hid (HF2.out.trans f1 (fun _ _ q => q))
            clear f1
            clear HBL
            obtain rfl : r = false := by rw [HR.out]; simp [g4]
            go_wp2_with fail
            go_ret
            exact ⟨rfl, HB.out.1.trans HF3.out (fun _ _ q => q)⟩
          | true =>
            rw [g4] at HCO
            have HBL := Lib.hid (HB.out.2.1.keep HF2.out (fun q => q))
            go_wp2_with (refine wpList_load_want (by rfl) 27 (.tmp 1) rfl w.heap.size 0 rfl (tkA t (.slice A1 n1 c1) (.slice A2 n2 c2) (.slice A3 n3 c3)).toList _ (blk_range (HBL.out)) Try.underlying27 rfl infoTk ?_)
            refine (HCO.out _ (HB.out.1.trans HF2.out (fun _ _ q => q))).mono ?_
            rintro e wx3 ⟨rfl, f1⟩
            have HF3 := Lib.hid (HF2.out.trans f1 (fun _ _ q => q))
            clear f1
            clear HBL
            cases g5 : coupsB t with
            | false =>
              rw [g5] at HCP
              have HBL := Lib.hid (HB.out.2.1.keep HF3.out (fun q => q))
              go_wp2_with (refine wpList_load_want (by rfl) 27 (.tmp 1) rfl w.heap.size 0 rfl (tkA t (.slice A1 n1 c1) (.slice A2 n2 c2) (.slice A3 n3 c3)).toList _ (blk_range (HBL.out)) Try.underlying27 rfl infoTk ?_)
              refine (HCP.out _ (HB.out.1.trans HF3.out (fun _ _ q => q))).mono ?_
              rintro e wx4 ⟨rfl, f1⟩
              have HF4 := Lib.hid (HF3.out.trans f1 (fun _ _ q => q))
              clear f1
              clear HBL
              obtain rfl : r = false := by rw [HR.out]; simp [g5]
              go_wp2_with fail
              go_ret
              exact ⟨rfl, HB.out.1.trans HF4.out (fun _ _ q => q)⟩
            | true =>
              rw [g5] at HCP
              have HBL := Lib.hid (HB.out.2.1.keep HF3.out (fun q => q))
              go_wp2_with (refine wpList_load_want (by rfl) 27 (.tmp 1) rfl w.heap.size 0 rfl (tkA t (.slice A1 n1 c1) (.slice A2 n2 c2) (.slice A3 n3 c3)).toList _ (blk_range (HBL.out)) Try.underlying27 rfl infoTk ?_)
              refine (HCP.out _ (HB.out.1.trans HF3.out (fun _ _ q => q))).mono ?_
              rintro e wx4 ⟨rfl, f1⟩
              have HF4 := Lib.hid (HF3.out.trans f1 (fun _ _ q => q))
              clear f1
              clear HBL
              have hy4 : wx4.cell? ⟨w.heap.size, 4, none⟩ = some (.slice A2 n2 c2) := cp_cell (HB.out.2.1.keep HF4.out (fun q => q)) 4 rfl
              cases g6 : taxesB t.txs with
              | false =>
                rw [g6] at HTX
                go_wp2_with fail
                refine (HTX.out _ (HB.out.1.trans HF4.out (fun _ _ q => q))).mono ?_
                rintro e wx5 ⟨rfl, f1⟩
                have HF5 := Lib.hid (HF4.out.trans f1 (fun _ _ q => q))
                clear f1
                clear hy4
                obtain rfl : r = false := by rw [HR.out]; simp [g6]
                go_wp2_with fail
                go_ret
                exact ⟨rfl, HB.out.1.trans HF5.out (fun _ _ q => q)⟩
              | true =>
                rw [g6] at HTX
                go_wp2_with fail
                refine (HTX.out _ (HB.out.1.trans HF4.out (fun _ _ q => q))).mono ?_
                rintro e wx5 ⟨rfl, f1⟩
                have HF5 := Lib.hid (HF4.out.trans f1 (fun _ _ q => q))
                clear f1
                clear hy4
                have hn9 : 1 ≤ t.cps.length ∧ t.cps.length ≤ 4 := by unfold coupsB at g5; simp only [Bool.and_eq_true, decide_eq_true_eq] at g5; exact g5.1
                cases g7 : tellsB t with
                | false =>
                  rw [g7] at HTL
                  have HBL := Lib.hid (HB.out.2.1.keep HF5.out (fun q => q))
                  go_wp2_with (refine wpList_load_want (by rfl) 27 (.tmp 1) rfl w.heap.size 0 rfl (tkA t (.slice A1 n1 c1) (.slice A2 n2 c2) (.slice A3 n3 c3)).toList _ (blk_range (HBL.out)) Try.underlying27 rfl infoTk ?_)
                  refine (HTL.out _ (HB.out.1.trans HF5.out (fun _ _ q => q)) hn9).mono ?_
                  rintro e wx6 ⟨rfl, f1⟩
                  have HF6 := Lib.hid (HF5.out.trans f1 (fun _ _ q => q))
                  clear f1
                  clear HBL
                  obtain rfl : r = false := by rw [HR.out]; simp [g7]
                  go_wp2_with fail
                  go_ret
                  exact ⟨rfl, HB.out.1.trans HF6.out (fun _ _ q => q)⟩
                | true =>
                  rw [g7] at HTL
                  have HBL := Lib.hid (HB.out.2.1.keep HF5.out (fun q => q))
                  go_wp2_with (refine wpList_load_want (by rfl) 27 (.tmp 1) rfl w.heap.size 0 rfl (tkA t (.slice A1 n1 c1) (.slice A2 n2 c2) (.slice A3 n3 c3)).toList _ (blk_range (HBL.out)) Try.underlying27 rfl infoTk ?_)
                  refine (HTL.out _ (HB.out.1.trans HF5.out (fun _ _ q => q)) hn9).mono ?_
                  rintro e wx6 ⟨rfl, f1⟩
                  have HF6 := Lib.hid (HF5.out.trans f1 (fun _ _ q => q))
                  clear f1
                  clear HBL
                  obtain rfl : r = true := by rw [HR.out]; simp [g0, g1, g2, g3, g4, g5, g6, g7]
                  go_wp2_with fail
                  go_ret
                  exact ⟨rfl, HB.out.1.trans HF6.out (fun _ _ q => q)⟩
  · have b0 : ((k : Int) == 0) = false := by rw [beq_eq_false_iff_ne]; omega
    go_wp2_with fail
    refine (HNU.out _).mono ?_
    rintro e w1 ⟨rfl, rfl⟩
    obtain rfl : r = false := by rw [HR.out]; simp [g0]
    go_wp2_with fail
    go_ret
    exact ⟨rfl, HB.out.1.trans HF0.out (fun _ _ q => q)⟩
end Go.Proofs.Ytmopkfjnjbimnaa
