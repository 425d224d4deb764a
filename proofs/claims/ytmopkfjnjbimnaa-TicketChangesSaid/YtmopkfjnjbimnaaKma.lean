/- couponref13: May. -/
import Derived.Test.YtmopkfjnjbimnaaKtn
namespace Go.Proofs.Ytmopkfjnjbimnaa
open Go.RowKit

theorem tk_cells {w : World} {g : Nat} {t : TkD} {sc sx se : Value} (h : Blk w g 27 (tkA t sc sx se)) :
    w.cell? ⟨g, 0, none⟩ = some (.int .u64 (t.num : Nat)) ∧ w.cell? ⟨g, 1, none⟩ = some (.string t.loc) ∧ w.cell? ⟨g, 2, none⟩ = some (.int .i64 t.iss) ∧ w.cell? ⟨g, 3, none⟩ = some sc ∧ w.cell? ⟨g, 4, none⟩ = some sx ∧
    w.cell? ⟨g, 5, none⟩ = some (.int .u64 (t.prv : Nat)) ∧ w.cell? ⟨g, 6, none⟩ = some (.int .u64 (t.org : Nat)) ∧ w.cell? ⟨g, 7, none⟩ = some (.int .u64 (t.fst : Nat)) ∧ w.cell? ⟨g, 8, none⟩ = some (.int .i64 t.vou) ∧ w.cell? ⟨g, 9, none⟩ = some (.int .i64 t.pos) ∧ w.cell? ⟨g, 10, none⟩ = some se :=
  ⟨cp_cell h 0 rfl, cp_cell h 1 rfl, cp_cell h 2 rfl, cp_cell h 3 rfl, cp_cell h 4 rfl, cp_cell h 5 rfl, cp_cell h 6 rfl, cp_cell h 7 rfl, cp_cell h 8 rfl, cp_cell h 9 rfl, cp_cell h 10 rfl⟩
def txAt (l : List TxD) (k : Nat) : Int := if k = 0 then 0 else ((l[k - 1]?).map TxD.co).getD 0
theorem txsB_at : ∀ (l : List TxD) (k : Nat) (p : Int), k ≤ l.length → txsB p l = true → ∀ j x, j < k → l[j]? = some x → 1 ≤ x.co ∧ x.co ≤ 99 ∧ someB x.am = true := by
  intro l
  induction l with
  | nil => intro k p hk _ j x hj; simp at hk; omega
  | cons y l ih =>
    intro k p hk h j x hj hx
    simp only [txsB, Bool.and_eq_true, decide_eq_true_eq] at h
    cases j with
    | zero =>
      simp at hx
      subst hx
      exact ⟨h.1.1.1.1, h.1.1.1.2, h.1.2⟩
    | succ j => exact ih l.length y.co (Nat.le_refl _) h.2 j x (by have := (List.getElem?_eq_some_iff.1 hx).1; simpa using this) (by simpa using hx)
/-- One test more of a row of taxes. -/
theorem txsB_step (l : List TxD) : ∀ (k : Nat) (x : TxD) (p : Int), l[k]? = some x → txsB p (l.take k) = true → txsB p (l.take (k + 1)) = (decide (1 ≤ x.co ∧ x.co ≤ 99) && decide ((if k = 0 then p else txAt l k) < x.co) && someB x.am) := by
  induction l with
  | nil => intro k x p h; simp at h
  | cons y l ih =>
    intro k x p h hp
    cases k with
    | zero =>
      simp at h
      subst h
      simp [txsB]
    | succ k =>
      simp only [List.take_succ_cons, txsB, Bool.and_eq_true] at hp
      have := ih k x y.co (by simpa using h) hp.2
      rw [List.take_succ_cons, txsB, this, hp.1.1.1, hp.1.1.2, hp.1.2]
      simp only [Bool.true_and, Nat.succ_ne_zero, if_false]
      congr 2
      cases k with
      | zero => simp [txAt]
      | succ k => simp [txAt]
theorem txsB_none (l : List TxD) (k : Nat) (p : Int) (h : txsB p (l.take k) = false) : txsB p l = false := by
  induction l generalizing k p with
  | nil => simpa using h
  | cons y l ih =>
    cases k with
    | zero => simp [txsB] at h
    | succ k =>
      rw [List.take_succ_cons, txsB] at h
      rw [txsB]
      cases e : txsB y.co (l.take k) with
      | false =>
        rw [ih k y.co e, Bool.and_false]
      | true =>
        rw [e, Bool.and_true] at h
        rw [h, Bool.false_and]
set_option maxRecDepth 100000 in
set_option maxHeartbeats 8000000 in
theorem rmayt_any {w : World} {v : Value} {t : TkD} (hv : TkV w v t) (hok : TkOk t) (hl : t.loc.size ≤ 1000) :
    Calls Try.prog 12 #[v] w fun e w' => e = .returned (.bool (mayT t)) ∧ Fr (fun _ => False) w w' := by
  have HV := Lib.hid hv
  obtain ⟨sc, sx, se, rfl, a1, a2, a3⟩ := hv
  have HT := Lib.hid hok
  have HLZ := Lib.hid hl
  obtain ⟨r, hr⟩ : ∃ r, r = mayT t := ⟨_, rfl⟩
  rw [← hr]
  have HRR := Lib.hid hr
  clear hr
  obtain ⟨hb, hhb⟩ : ∃ b, b = headB t := ⟨_, rfl⟩
  obtain ⟨cb, hcb⟩ : ∃ b, b = chainB t := ⟨_, rfl⟩
  obtain ⟨zb, hzb⟩ : ∃ b, b = sizeB t := ⟨_, rfl⟩
  have HHB := Lib.hid hhb
  have HCB := Lib.hid hcb
  have HZB := Lib.hid hzb
  have HA := Lib.hid (And.intro a1 (And.intro a2 a3))
  obtain ⟨A1, n1, c1, e1, l1⟩ : ∃ A n c, sc = .slice A n c ∧ n = t.cps.length := by obtain ⟨A, c, e, _⟩ := a1.slice; exact ⟨A, _, c, e, rfl⟩
  obtain ⟨A2, n2, c2, e2, l2⟩ : ∃ A n c, sx = .slice A n c ∧ n = t.txs.length := by obtain ⟨A, c, e, _⟩ := a2.slice; exact ⟨A, _, c, e, rfl⟩
  obtain ⟨A3, n3, c3, e3, l3⟩ : ∃ A n c, se = .slice A n c ∧ n = t.his.length := by obtain ⟨A, c, e, _⟩ := a3.slice; exact ⟨A, _, c, e, rfl⟩
  subst e1 e2 e3
  have HL := Lib.hid (And.intro l1 (And.intro l2 l3))
  obtain ⟨W0, hW0⟩ : ∃ W, W = w.alloc (.cells (tkA t (.slice A1 n1 c1) (.slice A2 n2 c2) (.slice A3 n3 c3)) 27) := ⟨_, rfl⟩
  have HB : Hid (Fr (fun _ => False) w W0 ∧ Blk W0 w.heap.size 27 (tkA t (.slice A1 n1 c1) (.slice A2 n2 c2) (.slice A3 n3 c3)) ∧ W0.heap.size = w.heap.size + 1) := Lib.hid (by rw [hW0]; exact ⟨(Fr.refl _ w).alloc _, Blk.new w _ _, Array.size_push _⟩)
  have HQ := Lib.hid hW0
  have HNU := Lib.hid (fun W => rnumb_any t.num hok.num W)
  have HNF := Lib.hid (fun W => rnumb_any t.fst hok.fst W)
  have HNP := Lib.hid (fun W => rnumb_any t.prv hok.prv W)
  have HNO := Lib.hid (fun W => rnumb_any t.org hok.org W)
  have HLO := Lib.hid (fun W => rloc_any t.loc hl W)
  have HDA := Lib.hid (fun W => rday_any t.iss W)
  have HTH := Lib.hid (fun W f => rthen_any (w := W) (t := t) 0 (HV.out.keep0 f) hok)
  clear a1 a2 a3 l1 l2 l3 hW0 hok hl hhb hcb hzb
  go_enter Try.func12, Try.ntmps12
  go_upto_region 1 with fail
  rw [← HQ.out]
  clear HQ
  have HF0 : Hid (Fr (fun _ => False) W0 W0) := Lib.hid (Fr.refl _ _)
  go_cut [49] from 8 to 49 (fun c wx => c = .bool (!hb) ∧ Hid (Fr (fun _ => False) W0 wx))
  case first =>
    obtain ⟨k0, k1, k2, k3, k4, k5, k6, k7, k8, k9, ka⟩ := tk_cells (HB.out.2.1.keep HF0.out (fun q => q))
    cases g0 : numB t.num with
    | false =>
      rw [g0] at HNU
      go_wp2_with fail
      refine (HNU.out _).mono ?_
      rintro e w1 ⟨rfl, f1⟩
      have HF1 := Lib.hid (HF0.out.trans f1 (fun _ _ q => q))
      clear f1
      clear k0 k1 k2 k3 k4 k5 k6 k7 k8 k9 ka
      obtain ⟨k0, k1, k2, k3, k4, k5, k6, k7, k8, k9, ka⟩ := tk_cells (HB.out.2.1.keep HF1.out (fun q => q))
      obtain rfl : hb = false := by rw [HHB.out]; unfold headB; simp [g0]
      clear g0
      go_wp2_with fail
      go_meet
      case rel => exact ⟨rfl, HF1⟩
    | true =>
      rw [g0] at HNU
      go_wp2_with fail
      refine (HNU.out _).mono ?_
      rintro e w1 ⟨rfl, f1⟩
      have HF1 := Lib.hid (HF0.out.trans f1 (fun _ _ q => q))
      clear f1
      clear k0 k1 k2 k3 k4 k5 k6 k7 k8 k9 ka
      obtain ⟨k0, k1, k2, k3, k4, k5, k6, k7, k8, k9, ka⟩ := tk_cells (HB.out.2.1.keep HF1.out (fun q => q))
      cases g1 : locB t.loc.data.toList with
      | false =>
        rw [g1] at HLO
        go_wp2_with fail
        refine (HLO.out _).mono ?_
        rintro e w1 ⟨rfl, rfl⟩
        obtain rfl : hb = false := by rw [HHB.out]; unfold headB; simp [g1]
        clear g0 g1
        go_wp2_with fail
        go_meet
        case rel => exact ⟨rfl, HF1⟩
      | true =>
        rw [g1] at HLO
        go_wp2_with fail
        refine (HLO.out _).mono ?_
        rintro e w1 ⟨rfl, rfl⟩
        cases g2 : dayB t.iss with
        | false =>
          rw [g2] at HDA
          go_wp2_with fail
          refine (HDA.out _).mono ?_
          rintro e w1 ⟨rfl, rfl⟩
          obtain rfl : hb = false := by rw [HHB.out]; unfold headB; simp [g2]
          clear g0 g1 g2
          go_wp2_with fail
          go_meet
          case rel => exact ⟨rfl, HF1⟩
        | true =>
          rw [g2] at HDA
          go_wp2_with fail
          refine (HDA.out _).mono ?_
          rintro e w1 ⟨rfl, rfl⟩
          cases g3 : numB t.fst with
          | false =>
            rw [g3] at HNF
            go_wp2_with fail
            refine (HNF.out _).mono ?_
            rintro e w1 ⟨rfl, f1⟩
            have HF2 := Lib.hid (HF1.out.trans f1 (fun _ _ q => q))
            clear f1
            clear k0 k1 k2 k3 k4 k5 k6 k7 k8 k9 ka
            obtain ⟨k0, k1, k2, k3, k4, k5, k6, k7, k8, k9, ka⟩ := tk_cells (HB.out.2.1.keep HF2.out (fun q => q))
            obtain rfl : hb = false := by rw [HHB.out]; unfold headB; simp [g3]
            clear g0 g1 g2 g3
            go_wp2_with fail
            go_meet
            case rel => exact ⟨rfl, HF2⟩
          | true =>
            rw [g3] at HNF
            go_wp2_with fail
            refine (HNF.out _).mono ?_
            rintro e w1 ⟨rfl, f1⟩
            have HF2 := Lib.hid (HF1.out.trans f1 (fun _ _ q => q))
            clear f1
            clear k0 k1 k2 k3 k4 k5 k6 k7 k8 k9 ka
            obtain ⟨k0, k1, k2, k3, k4, k5, k6, k7, k8, k9, ka⟩ := tk_cells (HB.out.2.1.keep HF2.out (fun q => q))
            by_cases g4 : 0 ≤ t.vou
            · have q4 : ¬ t.vou < 0 := by omega
              by_cases g5 : t.vou ≤ 1125899906842624
              · have q5 : ¬ 1125899906842624 < t.vou := by omega
                by_cases g6 : 0 ≤ t.pos
                · have q6 : ¬ t.pos < 0 := by omega
                  by_cases g7 : t.pos ≤ 200
                  · have q7 : ¬ 200 < t.pos := by omega
                    obtain rfl : hb = true := by rw [HHB.out]; unfold headB; simp [g0, g1, g2, g3, g4, g5, g6, g7]
                    clear g0 g1 g2 g3 g4 g5 g6 g7
                    go_wp2_with fail
                    go_meet
                    case rel => exact ⟨by simp [q4, q5, q6, q7], HF2⟩
                  · have q7 : 200 < t.pos := by omega
                    obtain rfl : hb = false := by rw [HHB.out]; unfold headB; simp [g7]
                    clear g0 g1 g2 g3 g4 g5 g6 g7
                    go_wp2_with fail
                    go_meet
                    case rel => exact ⟨rfl, HF2⟩
                · have q6 : t.pos < 0 := by omega
                  obtain rfl : hb = false := by rw [HHB.out]; unfold headB; simp [g6]
                  clear g0 g1 g2 g3 g4 g5 g6
                  go_wp2_with fail
                  go_meet
                  case rel => exact ⟨rfl, HF2⟩
              · have q5 : 1125899906842624 < t.vou := by omega
                obtain rfl : hb = false := by rw [HHB.out]; unfold headB; simp [g5]
                clear g0 g1 g2 g3 g4 g5
                go_wp2_with fail
                go_meet
                case rel => exact ⟨rfl, HF2⟩
            · have q4 : t.vou < 0 := by omega
              obtain rfl : hb = false := by rw [HHB.out]; unfold headB; simp [g4]
              clear g0 g1 g2 g3 g4
              go_wp2_with fail
              go_meet
              case rel => exact ⟨rfl, HF2⟩
  obtain ⟨rfl, HFa⟩ := hcut
  clear HF0 HNU HNF HLO HDA
  cases hb with
  | false =>
    obtain rfl : r = false := by rw [HRR.out]; unfold mayT; rw [← HHB.out]; simp
    go_wp2_with fail
    go_ret
    exact ⟨rfl, HB.out.1.trans HFa.out (fun _ _ q => q)⟩
  | true =>
    go_upto_region 3 with fail
    go_cut [90] from 50 to 90 (fun c wx => c = .bool (!cb) ∧ Hid (Fr (fun _ => False) W0 wx))
    case first =>
      obtain ⟨k0, k1, k2, k3, k4, k5, k6, k7, k8, k9, ka⟩ := tk_cells (HB.out.2.1.keep HFa.out (fun q => q))
      by_cases p0 : t.prv = 0
      · have p0e : ((t.prv : Int) == 0) = true := by rw [beq_iff_eq]; omega
        have p0n : ((t.prv : Int) != 0) = false := by rw [bne_eq_false_iff_eq]; omega
        by_cases p1 : t.org = t.num
        · have p1e : (((t.org : Nat) : Int) == ((t.num : Nat) : Int)) = true := by rw [beq_iff_eq]; omega
          have p1en : (((t.org : Nat) : Int) != ((t.num : Nat) : Int)) = false := by rw [bne_eq_false_iff_eq]; omega
          obtain rfl : cb = true := by rw [HCB.out]; unfold chainB; simp [p0, p1]
          clear p0 p1
          go_wp2_with fail
          go_meet
          case rel => exact ⟨rfl, HFa⟩
        · have p1e : (((t.org : Nat) : Int) == ((t.num : Nat) : Int)) = false := by rw [beq_eq_false_iff_ne]; omega
          have p1en : (((t.org : Nat) : Int) != ((t.num : Nat) : Int)) = true := by rw [bne_iff_ne]; omega
          obtain rfl : cb = false := by rw [HCB.out]; unfold chainB; simp [p0, p1]
          clear p0 p1
          go_wp2_with fail
          go_meet
          case rel => exact ⟨rfl, HFa⟩
      · have p0e : ((t.prv : Int) == 0) = false := by rw [beq_eq_false_iff_ne]; omega
        have p0n : ((t.prv : Int) != 0) = true := by rw [bne_iff_ne]; omega
        cases g0 : numB t.prv with
        | false =>
          rw [g0] at HNP
          go_wp2_with fail
          refine (HNP.out _).mono ?_
          rintro e w1 ⟨rfl, f1⟩
          have HF1 := Lib.hid (HFa.out.trans f1 (fun _ _ q => q))
          clear f1
          clear k0 k1 k2 k3 k4 k5 k6 k7 k8 k9 ka
          obtain ⟨k0, k1, k2, k3, k4, k5, k6, k7, k8, k9, ka⟩ := tk_cells (HB.out.2.1.keep HF1.out (fun q => q))
          obtain rfl : cb = false := by rw [HCB.out]; unfold chainB; simp [p0, g0]
          clear p0 g0
          go_wp2_with fail
          go_meet
          case rel => exact ⟨rfl, HF1⟩
        | true =>
          rw [g0] at HNP
          go_wp2_with fail
          refine (HNP.out _).mono ?_
          rintro e w1 ⟨rfl, f1⟩
          have HF1 := Lib.hid (HFa.out.trans f1 (fun _ _ q => q))
          clear f1
          clear k0 k1 k2 k3 k4 k5 k6 k7 k8 k9 ka
          obtain ⟨k0, k1, k2, k3, k4, k5, k6, k7, k8, k9, ka⟩ := tk_cells (HB.out.2.1.keep HF1.out (fun q => q))
          by_cases g1 : t.prv ≠ t.num
          · have p2e : (((t.prv : Nat) : Int) == ((t.num : Nat) : Int)) = false := by rw [beq_eq_false_iff_ne]; omega
            have p2en : (((t.prv : Nat) : Int) != ((t.num : Nat) : Int)) = true := by rw [bne_iff_ne]; omega
            cases g2 : numB t.org with
            | false =>
              rw [g2] at HNO
              go_wp2_with fail
              refine (HNO.out _).mono ?_
              rintro e w1 ⟨rfl, f1⟩
              have HF2 := Lib.hid (HF1.out.trans f1 (fun _ _ q => q))
              clear f1
              clear k0 k1 k2 k3 k4 k5 k6 k7 k8 k9 ka
              obtain ⟨k0, k1, k2, k3, k4, k5, k6, k7, k8, k9, ka⟩ := tk_cells (HB.out.2.1.keep HF2.out (fun q => q))
              obtain rfl : cb = false := by rw [HCB.out]; unfold chainB; simp [p0, g2]
              clear p0 g0 g1 g2
              go_wp2_with fail
              go_meet
              case rel => exact ⟨rfl, HF2⟩
            | true =>
              rw [g2] at HNO
              go_wp2_with fail
              refine (HNO.out _).mono ?_
              rintro e w1 ⟨rfl, f1⟩
              have HF2 := Lib.hid (HF1.out.trans f1 (fun _ _ q => q))
              clear f1
              clear k0 k1 k2 k3 k4 k5 k6 k7 k8 k9 ka
              obtain ⟨k0, k1, k2, k3, k4, k5, k6, k7, k8, k9, ka⟩ := tk_cells (HB.out.2.1.keep HF2.out (fun q => q))
              by_cases g3 : t.org ≠ t.num
              · have p3e : (((t.org : Nat) : Int) == ((t.num : Nat) : Int)) = false := by rw [beq_eq_false_iff_ne]; omega
                have p3en : (((t.org : Nat) : Int) != ((t.num : Nat) : Int)) = true := by rw [bne_iff_ne]; omega
                obtain rfl : cb = true := by rw [HCB.out]; unfold chainB; simp [p0, g0, g1, g2, g3]
                clear p0 g0 g1 g2 g3
                go_wp2_with fail
                go_meet
                case rel => exact ⟨rfl, HF2⟩
              · have p3e : (((t.org : Nat) : Int) == ((t.num : Nat) : Int)) = true := by rw [beq_iff_eq]; omega
                have p3en : (((t.org : Nat) : Int) != ((t.num : Nat) : Int)) = false := by rw [bne_eq_false_iff_eq]; omega
                obtain rfl : cb = false := by rw [HCB.out]; unfold chainB; simp [p0, g3]
                clear p0 g0 g1 g2 g3
                go_wp2_with fail
                go_meet
                case rel => exact ⟨rfl, HF2⟩
          · have p2e : (((t.prv : Nat) : Int) == ((t.num : Nat) : Int)) = true := by rw [beq_iff_eq]; omega
            have p2en : (((t.prv : Nat) : Int) != ((t.num : Nat) : Int)) = false := by rw [bne_eq_false_iff_eq]; omega
            obtain rfl : cb = false := by rw [HCB.out]; unfold chainB; simp [p0, g1]
            clear p0 g0 g1
            go_wp2_with fail
            go_meet
            case rel => exact ⟨rfl, HF1⟩
    obtain ⟨rfl, HFb⟩ := hcut
    clear HNP HNO
    cases cb with
    | false =>
      obtain rfl : r = false := by rw [HRR.out]; unfold mayT; rw [← HHB.out, ← HCB.out]; simp
      go_wp2_with fail
      go_ret
      exact ⟨rfl, HB.out.1.trans HFb.out (fun _ _ q => q)⟩
    | true =>
      go_upto_region 5 with fail
      go_cut [112] from 91 to 112 (fun c wx => c = .bool (!zb) ∧ Hid (Fr (fun _ => False) W0 wx))
      case first =>
        obtain ⟨k0, k1, k2, k3, k4, k5, k6, k7, k8, k9, ka⟩ := tk_cells (HB.out.2.1.keep HFb.out (fun q => q))
        by_cases g0 : 1 ≤ n1
        · have q0 : ¬ (n1 : Int) < 1 := by omega
          by_cases g1 : n1 ≤ 4
          · have q1 : ¬ (4 : Int) < (n1 : Int) := by omega
            by_cases g2 : n2 ≤ 4
            · have q2 : ¬ (4 : Int) < (n2 : Int) := by omega
              by_cases g3 : n3 ≤ 60
              · have q3 : ¬ (60 : Int) < (n3 : Int) := by omega
                obtain rfl : zb = true := by rw [HZB.out]; unfold sizeB; rw [← HL.out.1, ← HL.out.2.1, ← HL.out.2.2]; simp only [decide_eq_true_iff]; omega
                clear g0 g1 g2 g3
                go_wp2_with fail
                go_meet
                case rel => exact ⟨rfl, HFb⟩
              · have q3 : (60 : Int) < (n3 : Int) := by omega
                obtain rfl : zb = false := by rw [HZB.out]; unfold sizeB; rw [← HL.out.1, ← HL.out.2.1, ← HL.out.2.2]; simp only [decide_eq_false_iff_not]; omega
                clear g0 g1 g2 g3
                go_wp2_with fail
                go_meet
                case rel => exact ⟨rfl, HFb⟩
            · have q2 : (4 : Int) < (n2 : Int) := by omega
              obtain rfl : zb = false := by rw [HZB.out]; unfold sizeB; rw [← HL.out.1, ← HL.out.2.1, ← HL.out.2.2]; simp only [decide_eq_false_iff_not]; omega
              clear g0 g1 g2
              go_wp2_with fail
              go_meet
              case rel => exact ⟨rfl, HFb⟩
          · have q1 : (4 : Int) < (n1 : Int) := by omega
            obtain rfl : zb = false := by rw [HZB.out]; unfold sizeB; rw [← HL.out.1, ← HL.out.2.1, ← HL.out.2.2]; simp only [decide_eq_false_iff_not]; omega
            clear g0 g1
            go_wp2_with fail
            go_meet
            case rel => exact ⟨rfl, HFb⟩
        · have q0 : (n1 : Int) < 1 := by omega
          obtain rfl : zb = false := by rw [HZB.out]; unfold sizeB; rw [← HL.out.1, ← HL.out.2.1, ← HL.out.2.2]; simp only [decide_eq_false_iff_not]; omega
          clear g0
          go_wp2_with fail
          go_meet
          case rel => exact ⟨rfl, HFb⟩
      obtain ⟨rfl, HFc⟩ := hcut
      cases zb with
      | false =>
        obtain rfl : r = false := by rw [HRR.out]; unfold mayT; rw [← HHB.out, ← HCB.out, ← HZB.out]; simp
        go_wp2_with fail
        go_ret
        exact ⟨rfl, HB.out.1.trans HFc.out (fun _ _ q => q)⟩
      | true =>
        have hsz : (1 ≤ n1 ∧ n1 ≤ 4 ∧ n2 ≤ 4 ∧ n3 ≤ 60) := by
          have h5 := HZB.out
          unfold sizeB at h5
          rw [← HL.out.1, ← HL.out.2.1, ← HL.out.2.2] at h5
          exact of_decide_eq_true h5.symm
        have HSZ := Lib.hid hsz
        have m1 : n1 ≤ 4 := hsz.2.1
        have m2 : n2 ≤ 4 := hsz.2.2.1
        clear hsz
        have HKc := HFc
        have hx1 := cp_cell (HB.out.2.1.keep HFc.out (fun q => q)) 3 rfl
        go_wp2_with fail
        clear hx1
        go_loopw [3] (fun x wr => ∃ k : Nat, x = .int .i64 k ∧ k ≤ n1 ∧ Hid (∀ j c, j < k → t.cps[j]? = some c → cpB t.num c = true) ∧ Hid (Fr (fun _ => False) W0 wr)) (fun x _ => n1 - (intOf x).toNat)
        case atStart => exact ⟨0, rfl, Nat.zero_le _, Lib.hid (fun j c h => absurd h (by omega)), HKc⟩
        case round =>
          clear HKc HFc HFa HFb
          obtain ⟨k, rfl, hk, HP, HF⟩ := hrel
          have hx1 := cp_cell (HB.out.2.1.keep HF.out (fun q => q)) 3 rfl
          by_cases hlt : k < n1
          · obtain ⟨x1, hx⟩ : ∃ x, t.cps[k]? = some x := ⟨_, List.getElem?_eq_getElem (by rw [← HL.out.1]; exact hlt)⟩
            obtain ⟨b1, o1, cc1, e1, hc1⟩ := HA.out.1.cell hx
            injection e1 with e1 e1n e1c
            subst e1
            clear hx1
            have hx1 := cp_cell (HB.out.2.1.keep HF.out (fun q => q)) 3 rfl
            have HX0 : Hid (∀ W, Fr (fun _ => False) W0 W → W.cell? ⟨w.heap.size, 0, none⟩ = some (.int .u64 (t.num : Nat))) := Lib.hid (fun W f => cp_cell (HB.out.2.1.keep f (fun q => q)) 0 rfl)
            have HX1 : Hid (∀ W, Fr (fun _ => False) W0 W → W.cell? ⟨w.heap.size, 3, none⟩ = some (.slice (some ⟨b1, o1, none⟩) n1 c1)) := Lib.hid (fun W f => cp_cell (HB.out.2.1.keep f (fun q => q)) 3 rfl)
            have HY1 : Hid (∀ W, Fr (fun _ => False) W0 W → W.rangeAt b1 (o1 + k * 6) (cpC x1)) := Lib.hid (fun W f j u hu => by have h5 := hc1 j u hu; exact (f.cell (Nat.lt_of_lt_of_le (World.block_lt_of_cell? w _ h5) HB.out.1.size) (fun q => q)).trans ((HB.out.1.cell (World.block_lt_of_cell? w _ h5) (fun q => q)).trans h5))
            have hk0 : (0 : Int) ≤ (k : Int) := by omega
            have hkm : (k : Int) < (n1 : Int) := by omega
            have HK := Lib.hid (And.intro hk0 hkm)
            have HXY := Lib.hid (And.intro hx hlt)
            have HMC := Lib.hid (fun W => rmaycp_any t.num HT.out.num x1 (HT.out.cps x1 (List.mem_of_getElem? hx)) W)
            clear hx hc1 e1n e1c hlt
            cases he : cpB t.num x1 with
            | true =>
              rw [he] at HMC
              go_wp2_with fail
              refine wp_region_held_drew (S := fun w' => Fr (fun _ => False) W0 w') (by kernel_rfl) (HF.out.drew) (fun hS0 => ?_)
              refine anyH_take 0 120 (.pointer (some ⟨w.heap.size, 0, none⟩)) rfl rfl (by kernel_rfl) (by kernel_rfl) (by kernel_rfl) (fun _ _ _ h => h) (.inl ⟨by rfl, fun w'' hS => by go_simp⟩) hS0 ?_
              (simp only [List.setIfInBounds_toArray, List.set_cons_zero, List.set_cons_succ])
              refine anyH_take 1 121 (.int .u64 (t.num : Nat)) rfl rfl (by kernel_rfl) (by kernel_rfl) (by kernel_rfl) (fun _ _ _ h => h) (.inl ⟨by rfl, fun w'' hS => by have q0 := HX0.out _ hS; go_simp⟩) hS0 ?_
              (simp only [List.setIfInBounds_toArray, List.set_cons_zero, List.set_cons_succ])
              refine anyH_take 2 122 (.pointer (some ⟨w.heap.size, 3, none⟩)) rfl rfl (by kernel_rfl) (by kernel_rfl) (by kernel_rfl) (fun _ _ _ h => h) (.inl ⟨by rfl, fun w'' hS => by go_simp⟩) hS0 ?_
              (simp only [List.setIfInBounds_toArray, List.set_cons_zero, List.set_cons_succ])
              refine anyH_take 3 123 (.slice (some ⟨b1, o1, none⟩) n1 c1) rfl rfl (by kernel_rfl) (by kernel_rfl) (by kernel_rfl) (fun _ _ _ h => h) (.inl ⟨by rfl, fun w'' hS => by have q0 := HX1.out _ hS; go_simp⟩) hS0 ?_
              (simp only [List.setIfInBounds_toArray, List.set_cons_zero, List.set_cons_succ])
              refine anyH_take 4 124 (.int .i64 (k : Nat)) rfl rfl (by kernel_rfl) (by kernel_rfl) (by kernel_rfl) (fun _ _ _ h => h) (.inl ⟨by rfl, fun w'' hS => by go_simp⟩) hS0 ?_
              (simp only [List.setIfInBounds_toArray, List.set_cons_zero, List.set_cons_succ])
              refine anyH_take 5 125 (.pointer (some ⟨b1, o1 + k * 6, none⟩)) rfl rfl (by kernel_rfl) (by kernel_rfl) (by kernel_rfl) (fun _ _ _ h => h) (.inl ⟨by rfl, fun w'' hS => by have q0 := HK.out.1; have q1 := HK.out.2; go_simp⟩) hS0 ?_
              (simp only [List.setIfInBounds_toArray, List.set_cons_zero, List.set_cons_succ])
              refine anyH_take 6 126 (.agg (cpC x1).toArray) rfl rfl (by kernel_rfl) (by kernel_rfl) (by kernel_rfl) (fun _ _ _ h => h) (yieldsIf_load_mid rfl 49 (.tmp 125) rfl b1 (o1 + k * 6) rfl (cpC x1) _ (fun w'' hS => HY1.out w'' hS) Try.underlying49 rfl (info_size infoCp)) hS0 ?_
              (simp only [List.setIfInBounds_toArray, List.set_cons_zero, List.set_cons_succ])
              refine anyH_one 7 127 (.bool true) (by kernel_rfl) (tame_call 127 rfl rfl (by rfl) (fun w'' hS => by go_simp) (fun w'' hS => ((HMC.out w'').mono fun e w3 he => ⟨he.1, hS.trans he.2 (fun _ _ q => q)⟩))) hS0 (fun wq0 hS0 => ?_)
              (simp only [List.setIfInBounds_toArray, List.set_cons_zero, List.set_cons_succ])
              refine anyH_take 8 128 (.bool false) rfl rfl (by kernel_rfl) (by kernel_rfl) (by kernel_rfl) (fun _ _ _ h => h) (.inl ⟨by rfl, fun w'' hS => by go_simp⟩) hS0 ?_
              (simp only [List.setIfInBounds_toArray, List.set_cons_zero, List.set_cons_succ])
              refine wpAnyH_done (by kernel_rfl) ?_ _
              have HF2 := Lib.hid hS0
              clear hS0 hx1
              go_wp2_with fail
              refine ⟨⟨k + 1, by go_num, by have := HXY.out.2; omega, Lib.hid (fun i c hi hc => ?_), HF2⟩, ?_⟩
              · rcases Nat.lt_or_ge i k with h | h
                · exact HP.out i c h hc
                · obtain rfl : i = k := by omega
                  rw [HXY.out.1] at hc
                  injection hc with hc
                  rw [← hc]
                  exact he
              · simp [intOf]
                have := HXY.out.2
                omega
            | false =>
              rw [he] at HMC
              obtain rfl : r = false := by
                rw [HRR.out]
                unfold mayT
                rw [List.all_eq_false.2 ⟨x1, List.mem_of_getElem? HXY.out.1, by rw [he]; simp⟩]
                simp
              go_wp2_with fail
              refine wp_region_held_drew (S := fun w' => Fr (fun _ => False) W0 w') (by kernel_rfl) (HF.out.drew) (fun hS0 => ?_)
              refine anyH_take 0 120 (.pointer (some ⟨w.heap.size, 0, none⟩)) rfl rfl (by kernel_rfl) (by kernel_rfl) (by kernel_rfl) (fun _ _ _ h => h) (.inl ⟨by rfl, fun w'' hS => by go_simp⟩) hS0 ?_
              (simp only [List.setIfInBounds_toArray, List.set_cons_zero, List.set_cons_succ])
              refine anyH_take 1 121 (.int .u64 (t.num : Nat)) rfl rfl (by kernel_rfl) (by kernel_rfl) (by kernel_rfl) (fun _ _ _ h => h) (.inl ⟨by rfl, fun w'' hS => by have q0 := HX0.out _ hS; go_simp⟩) hS0 ?_
              (simp only [List.setIfInBounds_toArray, List.set_cons_zero, List.set_cons_succ])
              refine anyH_take 2 122 (.pointer (some ⟨w.heap.size, 3, none⟩)) rfl rfl (by kernel_rfl) (by kernel_rfl) (by kernel_rfl) (fun _ _ _ h => h) (.inl ⟨by rfl, fun w'' hS => by go_simp⟩) hS0 ?_
              (simp only [List.setIfInBounds_toArray, List.set_cons_zero, List.set_cons_succ])
              refine anyH_take 3 123 (.slice (some ⟨b1, o1, none⟩) n1 c1) rfl rfl (by kernel_rfl) (by kernel_rfl) (by kernel_rfl) (fun _ _ _ h => h) (.inl ⟨by rfl, fun w'' hS => by have q0 := HX1.out _ hS; go_simp⟩) hS0 ?_
              (simp only [List.setIfInBounds_toArray, List.set_cons_zero, List.set_cons_succ])
              refine anyH_take 4 124 (.int .i64 (k : Nat)) rfl rfl (by kernel_rfl) (by kernel_rfl) (by kernel_rfl) (fun _ _ _ h => h) (.inl ⟨by rfl, fun w'' hS => by go_simp⟩) hS0 ?_
              (simp only [List.setIfInBounds_toArray, List.set_cons_zero, List.set_cons_succ])
              refine anyH_take 5 125 (.pointer (some ⟨b1, o1 + k * 6, none⟩)) rfl rfl (by kernel_rfl) (by kernel_rfl) (by kernel_rfl) (fun _ _ _ h => h) (.inl ⟨by rfl, fun w'' hS => by have q0 := HK.out.1; have q1 := HK.out.2; go_simp⟩) hS0 ?_
              (simp only [List.setIfInBounds_toArray, List.set_cons_zero, List.set_cons_succ])
              refine anyH_take 6 126 (.agg (cpC x1).toArray) rfl rfl (by kernel_rfl) (by kernel_rfl) (by kernel_rfl) (fun _ _ _ h => h) (yieldsIf_load_mid rfl 49 (.tmp 125) rfl b1 (o1 + k * 6) rfl (cpC x1) _ (fun w'' hS => HY1.out w'' hS) Try.underlying49 rfl (info_size infoCp)) hS0 ?_
              (simp only [List.setIfInBounds_toArray, List.set_cons_zero, List.set_cons_succ])
              refine anyH_one 7 127 (.bool false) (by kernel_rfl) (tame_call 127 rfl rfl (by rfl) (fun w'' hS => by go_simp) (fun w'' hS => ((HMC.out w'').mono fun e w3 he => ⟨he.1, hS.trans he.2 (fun _ _ q => q)⟩))) hS0 (fun wq0 hS0 => ?_)
              (simp only [List.setIfInBounds_toArray, List.set_cons_zero, List.set_cons_succ])
              refine anyH_take 8 128 (.bool true) rfl rfl (by kernel_rfl) (by kernel_rfl) (by kernel_rfl) (fun _ _ _ h => h) (.inl ⟨by rfl, fun w'' hS => by go_simp⟩) hS0 ?_
              (simp only [List.setIfInBounds_toArray, List.set_cons_zero, List.set_cons_succ])
              refine wpAnyH_done (by kernel_rfl) ?_ _
              have HF2 := Lib.hid hS0
              clear hS0 hx1
              go_wp2_with fail
              go_ret
              exact ⟨rfl, HB.out.1.trans HF2.out (fun _ _ q => q)⟩
          · obtain rfl : k = n1 := by omega
            have hkk : ¬ (k : Int) < (k : Int) := by omega
            have HCP : Hid (t.cps.all (cpB t.num) = true) := Lib.hid (by
              rw [List.all_eq_true]
              intro c hc
              obtain ⟨j, hj⟩ := List.mem_iff_getElem?.1 hc
              exact HP.out j c (by have := (List.getElem?_eq_some_iff.1 hj).1; have := HL.out.1; omega) hj)
            have HKd := HF
            clear hlt HP
            have hx2 := cp_cell (HB.out.2.1.keep HF.out (fun q => q)) 4 rfl
            go_wp2_with fail
            clear hkk hx1 hx2 HF
            generalize wr = wo at *
            have HT0 : Hid (txsB 0 (t.txs.take 0) = true) := Lib.hid rfl
            go_loopw [4] (fun x wq => ∃ k2 : Nat, x = .int .i64 k2 ∧ k2 ≤ n2 ∧ Hid (txsB 0 (t.txs.take k2) = true) ∧ Hid (Fr (fun _ => False) W0 wq)) (fun x _ => n2 - (intOf x).toNat)
            case atStart => exact ⟨0, rfl, Nat.zero_le _, HT0, HKd⟩
            case round =>
              clear HT0 HKd
              obtain ⟨k2, rfl, hk2, HP, HF⟩ := hrel
              have hx1 := cp_cell (HB.out.2.1.keep HF.out (fun q => q)) 4 rfl
              by_cases hlt : k2 < n2
              · obtain ⟨x1, hx⟩ : ∃ x, t.txs[k2]? = some x := ⟨_, List.getElem?_eq_getElem (by rw [← HL.out.2.1]; exact hlt)⟩
                obtain ⟨b2, o2, cc2, e2, hc2⟩ := HA.out.2.1.cell hx
                injection e2 with e2 e2n e2c
                subst e2
                clear hx1
                have hx1 := cp_cell (HB.out.2.1.keep HF.out (fun q => q)) 4 rfl
                have hy1 : wr.rangeAt b2 (o2 + k2 * 2) (txC x1) := fun j u hu => by have h5 := hc2 j u hu; exact ((HB.out.1.trans HF.out (fun _ _ q => q)).cell (World.block_lt_of_cell? w _ h5) (fun q => q)).trans h5
                have hk0 : (0 : Int) ≤ (k2 : Int) := by omega
                have hkm : (k2 : Int) < (n2 : Int) := by omega
                have HXY := Lib.hid (And.intro hx hlt)
                have HAT : Hid (∀ (j : Nat) (x : TxD), t.txs[j]? = some x → w.cell? ⟨b2, o2 + j * 2, none⟩ = some (.int .i64 x.co)) := Lib.hid (fun j x hj => by
                  obtain ⟨b, off, c, e, h⟩ := HA.out.2.1.cell hj
                  injection e with e _ _
                  injection e with e
                  injection e with e5 e6 _
                  subst e5 e6
                  exact h 0 _ rfl)
                clear hx hc2 e2n e2c hlt
                go_wp2_with (refine wpList_load_mid rfl 62 (.tmp 139) rfl b2 (o2 + k2 * 2) rfl (txC x1) _ hy1 Try.underlying62 rfl (info_size infoTx) ?_)
                obtain ⟨xc, xa⟩ := x1
                obtain ⟨W1, hW1⟩ : ∃ W, W = wr.alloc (.cells #[.int .i64 xc, .int .i64 xa] 62) := ⟨_, rfl⟩
                have f1 : Fr (fun _ => False) wr W1 := by rw [hW1]; exact (Fr.refl _ wr).alloc _
                have hb1 : Blk W1 wr.heap.size 62 #[.int .i64 xc, .int .i64 xa] := by rw [hW1]; exact Blk.new wr _ _
                have HEV : Hid (∀ W, Fr (fun _ => False) W1 W → W.cell? ⟨wr.heap.size, 0, none⟩ = some (.int .i64 xc) ∧ W.cell? ⟨wr.heap.size, 1, none⟩ = some (.int .i64 xa)) := Lib.hid (fun W f => by
                  have hb := hb1.keep f (fun q => q)
                  exact ⟨cp_cell hb 0 rfl, cp_cell hb 1 rfl⟩)
                have HF1 := Lib.hid (HF.out.trans f1 (fun _ _ q => q))
                have HX2 : Hid (∀ W, Fr (fun _ => False) W1 W → W.cell? ⟨w.heap.size, 4, none⟩ = some (.slice (some ⟨b2, o2, none⟩) n2 c2)) := Lib.hid (fun W f => cp_cell (HB.out.2.1.keep (HF1.out.trans f (fun _ _ q => q)) (fun q => q)) 4 rfl)
                have hstep := txsB_step t.txs k2 ⟨xc, xa⟩ 0 HXY.out.1 HP.out
                have hfail : txsB 0 (t.txs.take (k2 + 1)) = false → r = false := fun e => by
                  rw [HRR.out]
                  unfold mayT
                  rw [txsB_none t.txs (k2 + 1) 0 e]
                  simp
                have HFA := Lib.hid hfail
                have HST := Lib.hid hstep
                have HSO := Lib.hid (fun W => rsome_any xa W)
                rw [← hW1]
                clear hstep hfail hW1 f1 hb1 hx1 hy1 hk0 hkm HP HF
                generalize hge : wr.heap.size = ge at *
                clear hge
                by_cases g0 : 1 ≤ xc
                · have Q0 : Hid (¬ xc < 1) := Lib.hid (by omega)
                  by_cases g1 : xc ≤ 99
                  · have Q1 : Hid (¬ 99 < xc) := Lib.hid (by omega)
                    by_cases gk : k2 = 0
                    · have QN := Lib.hid gk
                      have QK : Hid (¬ (0 : Int) < (k2 : Int)) := Lib.hid (by omega)
                      cases e3 : someB xa with
                      | false =>
                        rw [e3] at HSO
                        obtain rfl : r = false := HFA.out (by rw [HST.out]; simp [e3])
                        clear g0 g1 gk e3 HST HFA
                        go_wp2_with fail
                        refine wp_region_held_drew (S := fun w' => Fr (fun _ => False) W1 w') (by kernel_rfl) ((Fr.refl _ W1).drew) (fun hS0 => ?_)
                        refine anyH_take 0 141 (.pointer (some ⟨ge, 0, none⟩)) rfl rfl (by kernel_rfl) (by kernel_rfl) (by kernel_rfl) (fun _ _ _ h => h) (.inl ⟨by rfl, fun w'' hS => by go_simp⟩) hS0 ?_
                        (simp only [List.setIfInBounds_toArray, List.set_cons_zero, List.set_cons_succ])
                        refine anyH_take 1 142 (.int .i64 xc) rfl rfl (by kernel_rfl) (by kernel_rfl) (by kernel_rfl) (fun _ _ _ h => h) (.inl ⟨by rfl, fun w'' hS => by have q0 := (HEV.out _ hS).1; go_simp⟩) hS0 ?_
                        (simp only [List.setIfInBounds_toArray, List.set_cons_zero, List.set_cons_succ])
                        refine anyH_take 2 143 (.bool false) rfl rfl (by kernel_rfl) (by kernel_rfl) (by kernel_rfl) (fun _ _ _ h => h) (.inl ⟨by rfl, fun w'' hS => by have q0 := Q0.out; go_simp⟩) hS0 ?_
                        (simp only [List.setIfInBounds_toArray, List.set_cons_zero, List.set_cons_succ])
                        refine anyH_take 3 144 (.bool false) rfl rfl (by kernel_rfl) (by kernel_rfl) (by kernel_rfl) (fun _ _ _ h => h) (.inl ⟨by rfl, fun w'' hS => by go_simp⟩) hS0 ?_
                        (simp only [List.setIfInBounds_toArray, List.set_cons_zero, List.set_cons_succ])
                        refine anyH_take 4 145 (.pointer (some ⟨ge, 0, none⟩)) rfl rfl (by kernel_rfl) (by kernel_rfl) (by kernel_rfl) (fun _ _ _ h => h) (.inl ⟨by rfl, fun w'' hS => by go_simp⟩) hS0 ?_
                        (simp only [List.setIfInBounds_toArray, List.set_cons_zero, List.set_cons_succ])
                        refine anyH_take 5 146 (.int .i64 xc) rfl rfl (by kernel_rfl) (by kernel_rfl) (by kernel_rfl) (fun _ _ _ h => h) (.inl ⟨by rfl, fun w'' hS => by have q0 := (HEV.out _ hS).1; go_simp⟩) hS0 ?_
                        (simp only [List.setIfInBounds_toArray, List.set_cons_zero, List.set_cons_succ])
                        refine anyH_take 6 147 (.bool false) rfl rfl (by kernel_rfl) (by kernel_rfl) (by kernel_rfl) (fun _ _ _ h => h) (.inl ⟨by rfl, fun w'' hS => by have q0 := Q1.out; go_simp⟩) hS0 ?_
                        (simp only [List.setIfInBounds_toArray, List.set_cons_zero, List.set_cons_succ])
                        refine anyH_take 7 148 (.bool false) rfl rfl (by kernel_rfl) (by kernel_rfl) (by kernel_rfl) (fun _ _ _ h => h) (.inl ⟨by rfl, fun w'' hS => by go_simp⟩) hS0 ?_
                        (simp only [List.setIfInBounds_toArray, List.set_cons_zero, List.set_cons_succ])
                        refine anyH_take 8 149 (.bool false) rfl rfl (by kernel_rfl) (by kernel_rfl) (by kernel_rfl) (fun _ _ _ h => h) (.inl ⟨by rfl, fun w'' hS => by go_simp⟩) hS0 ?_
                        (simp only [List.setIfInBounds_toArray, List.set_cons_zero, List.set_cons_succ])
                        refine anyH_take 9 150 (.int .i64 (k2 : Nat)) rfl rfl (by kernel_rfl) (by kernel_rfl) (by kernel_rfl) (fun _ _ _ h => h) (.inl ⟨by rfl, fun w'' hS => by go_simp⟩) hS0 ?_
                        (simp only [List.setIfInBounds_toArray, List.set_cons_zero, List.set_cons_succ])
                        refine anyH_take 10 151 (.bool false) rfl rfl (by kernel_rfl) (by kernel_rfl) (by kernel_rfl) (fun _ _ _ h => h) (.inl ⟨by rfl, fun w'' hS => by have q0 := QK.out; have q1 := QN.out; go_simp⟩) hS0 ?_
                        (simp only [List.setIfInBounds_toArray, List.set_cons_zero, List.set_cons_succ])
                        refine anyH_take 11 152 (.bool false) rfl rfl (by kernel_rfl) (by kernel_rfl) (by kernel_rfl) (fun _ _ _ h => h) (.inl ⟨by rfl, fun w'' hS => by go_simp⟩) hS0 ?_
                        (simp only [List.setIfInBounds_toArray, List.set_cons_zero, List.set_cons_succ])
                        refine anyH_take 12 153 undef rfl rfl (by kernel_rfl) (by kernel_rfl) (by kernel_rfl) (fun _ _ _ h => h) (.inr ⟨by rfl, rfl⟩) hS0 ?_
                        (simp only [List.setIfInBounds_toArray, List.set_cons_zero, List.set_cons_succ])
                        refine anyH_take 13 154 undef rfl rfl (by kernel_rfl) (by kernel_rfl) (by kernel_rfl) (fun _ _ _ h => h) (.inr ⟨by rfl, rfl⟩) hS0 ?_
                        (simp only [List.setIfInBounds_toArray, List.set_cons_zero, List.set_cons_succ])
                        refine anyH_take 14 155 undef rfl rfl (by kernel_rfl) (by kernel_rfl) (by kernel_rfl) (fun _ _ _ h => h) (.inr ⟨by rfl, rfl⟩) hS0 ?_
                        (simp only [List.setIfInBounds_toArray, List.set_cons_zero, List.set_cons_succ])
                        refine anyH_take 15 156 undef rfl rfl (by kernel_rfl) (by kernel_rfl) (by kernel_rfl) (fun _ _ _ h => h) (.inr ⟨by rfl, rfl⟩) hS0 ?_
                        (simp only [List.setIfInBounds_toArray, List.set_cons_zero, List.set_cons_succ])
                        refine anyH_take 16 157 undef rfl rfl (by kernel_rfl) (by kernel_rfl) (by kernel_rfl) (fun _ _ _ h => h) (.inr ⟨by rfl, rfl⟩) hS0 ?_
                        (simp only [List.setIfInBounds_toArray, List.set_cons_zero, List.set_cons_succ])
                        refine anyH_take 17 158 undef rfl rfl (by kernel_rfl) (by kernel_rfl) (by kernel_rfl) (fun _ _ _ h => h) (.inr ⟨by rfl, rfl⟩) hS0 ?_
                        (simp only [List.setIfInBounds_toArray, List.set_cons_zero, List.set_cons_succ])
                        refine anyH_take 18 159 undef rfl rfl (by kernel_rfl) (by kernel_rfl) (by kernel_rfl) (fun _ _ _ h => h) (.inr ⟨by rfl, rfl⟩) hS0 ?_
                        (simp only [List.setIfInBounds_toArray, List.set_cons_zero, List.set_cons_succ])
                        refine anyH_take 19 160 undef rfl rfl (by kernel_rfl) (by kernel_rfl) (by kernel_rfl) (fun _ _ _ h => h) (.inr ⟨by rfl, rfl⟩) hS0 ?_
                        (simp only [List.setIfInBounds_toArray, List.set_cons_zero, List.set_cons_succ])
                        refine anyH_take 20 161 undef rfl rfl (by kernel_rfl) (by kernel_rfl) (by kernel_rfl) (fun _ _ _ h => h) (.inr ⟨by rfl, rfl⟩) hS0 ?_
                        (simp only [List.setIfInBounds_toArray, List.set_cons_zero, List.set_cons_succ])
                        refine anyH_take 21 162 undef rfl rfl (by kernel_rfl) (by kernel_rfl) (by kernel_rfl) (fun _ _ _ h => h) (.inr ⟨by rfl, rfl⟩) hS0 ?_
                        (simp only [List.setIfInBounds_toArray, List.set_cons_zero, List.set_cons_succ])
                        refine anyH_take 22 163 (.bool false) rfl rfl (by kernel_rfl) (by kernel_rfl) (by kernel_rfl) (fun _ _ _ h => h) (.inl ⟨by rfl, fun w'' hS => by go_simp⟩) hS0 ?_
                        (simp only [List.setIfInBounds_toArray, List.set_cons_zero, List.set_cons_succ])
                        refine anyH_take 23 164 (.bool false) rfl rfl (by kernel_rfl) (by kernel_rfl) (by kernel_rfl) (fun _ _ _ h => h) (.inl ⟨by rfl, fun w'' hS => by go_simp⟩) hS0 ?_
                        (simp only [List.setIfInBounds_toArray, List.set_cons_zero, List.set_cons_succ])
                        refine anyH_take 24 165 (.bool false) rfl rfl (by kernel_rfl) (by kernel_rfl) (by kernel_rfl) (fun _ _ _ h => h) (.inl ⟨by rfl, fun w'' hS => by go_simp⟩) hS0 ?_
                        (simp only [List.setIfInBounds_toArray, List.set_cons_zero, List.set_cons_succ])
                        refine anyH_take 25 166 (.pointer (some ⟨ge, 1, none⟩)) rfl rfl (by kernel_rfl) (by kernel_rfl) (by kernel_rfl) (fun _ _ _ h => h) (.inl ⟨by rfl, fun w'' hS => by go_simp⟩) hS0 ?_
                        (simp only [List.setIfInBounds_toArray, List.set_cons_zero, List.set_cons_succ])
                        refine anyH_take 26 167 (.int .i64 xa) rfl rfl (by kernel_rfl) (by kernel_rfl) (by kernel_rfl) (fun _ _ _ h => h) (.inl ⟨by rfl, fun w'' hS => by have q0 := (HEV.out _ hS).2; go_simp⟩) hS0 ?_
                        (simp only [List.setIfInBounds_toArray, List.set_cons_zero, List.set_cons_succ])
                        refine anyH_one 27 168 (.bool false) (by kernel_rfl) (tame_call 168 rfl rfl (by rfl) (fun w'' hS => by go_simp) (fun w'' hS => ((HSO.out w'').mono fun e w3 he => ⟨he.1, he.2 ▸ hS⟩))) hS0 (fun wq0 hS0 => ?_)
                        (simp only [List.setIfInBounds_toArray, List.set_cons_zero, List.set_cons_succ])
                        refine anyH_take 28 169 (.bool true) rfl rfl (by kernel_rfl) (by kernel_rfl) (by kernel_rfl) (fun _ _ _ h => h) (.inl ⟨by rfl, fun w'' hS => by go_simp⟩) hS0 ?_
                        (simp only [List.setIfInBounds_toArray, List.set_cons_zero, List.set_cons_succ])
                        refine anyH_take 29 170 (.bool true) rfl rfl (by kernel_rfl) (by kernel_rfl) (by kernel_rfl) (fun _ _ _ h => h) (.inl ⟨by rfl, fun w'' hS => by go_simp⟩) hS0 ?_
                        (simp only [List.setIfInBounds_toArray, List.set_cons_zero, List.set_cons_succ])
                        refine wpAnyH_done (by kernel_rfl) ?_ _
                        have HF2 := Lib.hid hS0
                        clear hS0
                        go_wp2_with fail
                        go_ret
                        exact ⟨rfl, HB.out.1.trans (HF1.out.trans HF2.out (fun _ _ q => q)) (fun _ _ q => q)⟩
                      | true =>
                        rw [e3] at HSO
                        have HNX : Hid (txsB 0 (t.txs.take (k2 + 1)) = true) := Lib.hid (by rw [HST.out]; simp [e3, g0, g1, gk]; try omega)
                        clear g0 g1 gk e3 HST HFA
                        go_wp2_with fail
                        refine wp_region_held_drew (S := fun w' => Fr (fun _ => False) W1 w') (by kernel_rfl) ((Fr.refl _ W1).drew) (fun hS0 => ?_)
                        refine anyH_take 0 141 (.pointer (some ⟨ge, 0, none⟩)) rfl rfl (by kernel_rfl) (by kernel_rfl) (by kernel_rfl) (fun _ _ _ h => h) (.inl ⟨by rfl, fun w'' hS => by go_simp⟩) hS0 ?_
                        (simp only [List.setIfInBounds_toArray, List.set_cons_zero, List.set_cons_succ])
                        refine anyH_take 1 142 (.int .i64 xc) rfl rfl (by kernel_rfl) (by kernel_rfl) (by kernel_rfl) (fun _ _ _ h => h) (.inl ⟨by rfl, fun w'' hS => by have q0 := (HEV.out _ hS).1; go_simp⟩) hS0 ?_
                        (simp only [List.setIfInBounds_toArray, List.set_cons_zero, List.set_cons_succ])
                        refine anyH_take 2 143 (.bool false) rfl rfl (by kernel_rfl) (by kernel_rfl) (by kernel_rfl) (fun _ _ _ h => h) (.inl ⟨by rfl, fun w'' hS => by have q0 := Q0.out; go_simp⟩) hS0 ?_
                        (simp only [List.setIfInBounds_toArray, List.set_cons_zero, List.set_cons_succ])
                        refine anyH_take 3 144 (.bool false) rfl rfl (by kernel_rfl) (by kernel_rfl) (by kernel_rfl) (fun _ _ _ h => h) (.inl ⟨by rfl, fun w'' hS => by go_simp⟩) hS0 ?_
                        (simp only [List.setIfInBounds_toArray, List.set_cons_zero, List.set_cons_succ])
                        refine anyH_take 4 145 (.pointer (some ⟨ge, 0, none⟩)) rfl rfl (by kernel_rfl) (by kernel_rfl) (by kernel_rfl) (fun _ _ _ h => h) (.inl ⟨by rfl, fun w'' hS => by go_simp⟩) hS0 ?_
                        (simp only [List.setIfInBounds_toArray, List.set_cons_zero, List.set_cons_succ])
                        refine anyH_take 5 146 (.int .i64 xc) rfl rfl (by kernel_rfl) (by kernel_rfl) (by kernel_rfl) (fun _ _ _ h => h) (.inl ⟨by rfl, fun w'' hS => by have q0 := (HEV.out _ hS).1; go_simp⟩) hS0 ?_
                        (simp only [List.setIfInBounds_toArray, List.set_cons_zero, List.set_cons_succ])
                        refine anyH_take 6 147 (.bool false) rfl rfl (by kernel_rfl) (by kernel_rfl) (by kernel_rfl) (fun _ _ _ h => h) (.inl ⟨by rfl, fun w'' hS => by have q0 := Q1.out; go_simp⟩) hS0 ?_
                        (simp only [List.setIfInBounds_toArray, List.set_cons_zero, List.set_cons_succ])
                        refine anyH_take 7 148 (.bool false) rfl rfl (by kernel_rfl) (by kernel_rfl) (by kernel_rfl) (fun _ _ _ h => h) (.inl ⟨by rfl, fun w'' hS => by go_simp⟩) hS0 ?_
                        (simp only [List.setIfInBounds_toArray, List.set_cons_zero, List.set_cons_succ])
                        refine anyH_take 8 149 (.bool false) rfl rfl (by kernel_rfl) (by kernel_rfl) (by kernel_rfl) (fun _ _ _ h => h) (.inl ⟨by rfl, fun w'' hS => by go_simp⟩) hS0 ?_
                        (simp only [List.setIfInBounds_toArray, List.set_cons_zero, List.set_cons_succ])
                        refine anyH_take 9 150 (.int .i64 (k2 : Nat)) rfl rfl (by kernel_rfl) (by kernel_rfl) (by kernel_rfl) (fun _ _ _ h => h) (.inl ⟨by rfl, fun w'' hS => by go_simp⟩) hS0 ?_
                        (simp only [List.setIfInBounds_toArray, List.set_cons_zero, List.set_cons_succ])
                        refine anyH_take 10 151 (.bool false) rfl rfl (by kernel_rfl) (by kernel_rfl) (by kernel_rfl) (fun _ _ _ h => h) (.inl ⟨by rfl, fun w'' hS => by have q0 := QK.out; have q1 := QN.out; go_simp⟩) hS0 ?_
                        (simp only [List.setIfInBounds_toArray, List.set_cons_zero, List.set_cons_succ])
                        refine anyH_take 11 152 (.bool false) rfl rfl (by kernel_rfl) (by kernel_rfl) (by kernel_rfl) (fun _ _ _ h => h) (.inl ⟨by rfl, fun w'' hS => by go_simp⟩) hS0 ?_
                        (simp only [List.setIfInBounds_toArray, List.set_cons_zero, List.set_cons_succ])
                        refine anyH_take 12 153 undef rfl rfl (by kernel_rfl) (by kernel_rfl) (by kernel_rfl) (fun _ _ _ h => h) (.inr ⟨by rfl, rfl⟩) hS0 ?_
                        (simp only [List.setIfInBounds_toArray, List.set_cons_zero, List.set_cons_succ])
                        refine anyH_take 13 154 undef rfl rfl (by kernel_rfl) (by kernel_rfl) (by kernel_rfl) (fun _ _ _ h => h) (.inr ⟨by rfl, rfl⟩) hS0 ?_
                        (simp only [List.setIfInBounds_toArray, List.set_cons_zero, List.set_cons_succ])
                        refine anyH_take 14 155 undef rfl rfl (by kernel_rfl) (by kernel_rfl) (by kernel_rfl) (fun _ _ _ h => h) (.inr ⟨by rfl, rfl⟩) hS0 ?_
                        (simp only [List.setIfInBounds_toArray, List.set_cons_zero, List.set_cons_succ])
                        refine anyH_take 15 156 undef rfl rfl (by kernel_rfl) (by kernel_rfl) (by kernel_rfl) (fun _ _ _ h => h) (.inr ⟨by rfl, rfl⟩) hS0 ?_
                        (simp only [List.setIfInBounds_toArray, List.set_cons_zero, List.set_cons_succ])
                        refine anyH_take 16 157 undef rfl rfl (by kernel_rfl) (by kernel_rfl) (by kernel_rfl) (fun _ _ _ h => h) (.inr ⟨by rfl, rfl⟩) hS0 ?_
                        (simp only [List.setIfInBounds_toArray, List.set_cons_zero, List.set_cons_succ])
                        refine anyH_take 17 158 undef rfl rfl (by kernel_rfl) (by kernel_rfl) (by kernel_rfl) (fun _ _ _ h => h) (.inr ⟨by rfl, rfl⟩) hS0 ?_
                        (simp only [List.setIfInBounds_toArray, List.set_cons_zero, List.set_cons_succ])
                        refine anyH_take 18 159 undef rfl rfl (by kernel_rfl) (by kernel_rfl) (by kernel_rfl) (fun _ _ _ h => h) (.inr ⟨by rfl, rfl⟩) hS0 ?_
                        (simp only [List.setIfInBounds_toArray, List.set_cons_zero, List.set_cons_succ])
                        refine anyH_take 19 160 undef rfl rfl (by kernel_rfl) (by kernel_rfl) (by kernel_rfl) (fun _ _ _ h => h) (.inr ⟨by rfl, rfl⟩) hS0 ?_
                        (simp only [List.setIfInBounds_toArray, List.set_cons_zero, List.set_cons_succ])
                        refine anyH_take 20 161 undef rfl rfl (by kernel_rfl) (by kernel_rfl) (by kernel_rfl) (fun _ _ _ h => h) (.inr ⟨by rfl, rfl⟩) hS0 ?_
                        (simp only [List.setIfInBounds_toArray, List.set_cons_zero, List.set_cons_succ])
                        refine anyH_take 21 162 undef rfl rfl (by kernel_rfl) (by kernel_rfl) (by kernel_rfl) (fun _ _ _ h => h) (.inr ⟨by rfl, rfl⟩) hS0 ?_
                        (simp only [List.setIfInBounds_toArray, List.set_cons_zero, List.set_cons_succ])
                        refine anyH_take 22 163 (.bool false) rfl rfl (by kernel_rfl) (by kernel_rfl) (by kernel_rfl) (fun _ _ _ h => h) (.inl ⟨by rfl, fun w'' hS => by go_simp⟩) hS0 ?_
                        (simp only [List.setIfInBounds_toArray, List.set_cons_zero, List.set_cons_succ])
                        refine anyH_take 23 164 (.bool false) rfl rfl (by kernel_rfl) (by kernel_rfl) (by kernel_rfl) (fun _ _ _ h => h) (.inl ⟨by rfl, fun w'' hS => by go_simp⟩) hS0 ?_
                        (simp only [List.setIfInBounds_toArray, List.set_cons_zero, List.set_cons_succ])
                        refine anyH_take 24 165 (.bool false) rfl rfl (by kernel_rfl) (by kernel_rfl) (by kernel_rfl) (fun _ _ _ h => h) (.inl ⟨by rfl, fun w'' hS => by go_simp⟩) hS0 ?_
                        (simp only [List.setIfInBounds_toArray, List.set_cons_zero, List.set_cons_succ])
                        refine anyH_take 25 166 (.pointer (some ⟨ge, 1, none⟩)) rfl rfl (by kernel_rfl) (by kernel_rfl) (by kernel_rfl) (fun _ _ _ h => h) (.inl ⟨by rfl, fun w'' hS => by go_simp⟩) hS0 ?_
                        (simp only [List.setIfInBounds_toArray, List.set_cons_zero, List.set_cons_succ])
                        refine anyH_take 26 167 (.int .i64 xa) rfl rfl (by kernel_rfl) (by kernel_rfl) (by kernel_rfl) (fun _ _ _ h => h) (.inl ⟨by rfl, fun w'' hS => by have q0 := (HEV.out _ hS).2; go_simp⟩) hS0 ?_
                        (simp only [List.setIfInBounds_toArray, List.set_cons_zero, List.set_cons_succ])
                        refine anyH_one 27 168 (.bool true) (by kernel_rfl) (tame_call 168 rfl rfl (by rfl) (fun w'' hS => by go_simp) (fun w'' hS => ((HSO.out w'').mono fun e w3 he => ⟨he.1, he.2 ▸ hS⟩))) hS0 (fun wq0 hS0 => ?_)
                        (simp only [List.setIfInBounds_toArray, List.set_cons_zero, List.set_cons_succ])
                        refine anyH_take 28 169 (.bool false) rfl rfl (by kernel_rfl) (by kernel_rfl) (by kernel_rfl) (fun _ _ _ h => h) (.inl ⟨by rfl, fun w'' hS => by go_simp⟩) hS0 ?_
                        (simp only [List.setIfInBounds_toArray, List.set_cons_zero, List.set_cons_succ])
                        refine anyH_take 29 170 (.bool false) rfl rfl (by kernel_rfl) (by kernel_rfl) (by kernel_rfl) (fun _ _ _ h => h) (.inl ⟨by rfl, fun w'' hS => by go_simp⟩) hS0 ?_
                        (simp only [List.setIfInBounds_toArray, List.set_cons_zero, List.set_cons_succ])
                        refine wpAnyH_done (by kernel_rfl) ?_ _
                        have HF2 := Lib.hid hS0
                        clear hS0
                        go_wp2_with fail
                        refine ⟨⟨k2 + 1, by go_num, by have := HXY.out.2; omega, HNX, Lib.hid (HF1.out.trans HF2.out (fun _ _ q => q))⟩, ?_⟩
                        simp [intOf]
                        have := HXY.out.2
                        omega
                    · have QN : Hid (0 < k2) := Lib.hid (by omega)
                      have QK : Hid ((0 : Int) < (k2 : Int)) := Lib.hid (by omega)
                      obtain ⟨p, hp⟩ : ∃ p, k2 = p + 1 := ⟨k2 - 1, by omega⟩
                      have HPK : Hid ((k2 : Int) - 1 = (p : Int) ∧ IntKind.i64.wrap (p : Int) = (p : Int) ∧ (0 : Int) ≤ (p : Int) ∧ (p : Int) < (n2 : Int)) := Lib.hid ⟨by omega, wrapI_id (by omega) (by omega), by omega, by have := HXY.out.2; omega⟩
                      obtain ⟨x0, hx0⟩ : ∃ x, t.txs[p]? = some x := ⟨_, List.getElem?_eq_getElem (by rw [← HL.out.2.1]; have := HXY.out.2; omega)⟩
                      have hpc := HAT.out p x0 hx0
                      obtain ⟨pc, hpce⟩ : ∃ z, z = x0.co := ⟨_, rfl⟩
                      rw [← hpce] at hpc
                      have hta : txAt t.txs k2 = pc := by
                        unfold txAt
                        rw [if_neg gk, hp, Nat.add_sub_cancel, hx0, hpce]
                        rfl
                      have HPC : Hid (∀ W, Fr (fun _ => False) W1 W → W.cell? ⟨b2, o2 + p * 2, none⟩ = some (.int .i64 pc)) := Lib.hid (fun W f => ((HB.out.1.trans (HF1.out.trans f (fun _ _ q => q)) (fun _ _ q => q)).cell (World.block_lt_of_cell? w _ hpc) (fun q => q)).trans hpc)
                      clear hp hx0 hpc hpce
                      by_cases g2 : pc < xc
                      · have Q2 : Hid (¬ xc ≤ pc) := Lib.hid (by omega)
                        cases e3 : someB xa with
                        | false =>
                          rw [e3] at HSO
                          obtain rfl : r = false := HFA.out (by rw [HST.out]; simp [e3])
                          clear g0 g1 gk g2 hta e3 HST HFA
                          go_wp2_with fail
                          refine wp_region_held_drew (S := fun w' => Fr (fun _ => False) W1 w') (by kernel_rfl) ((Fr.refl _ W1).drew) (fun hS0 => ?_)
                          refine anyH_take 0 141 (.pointer (some ⟨ge, 0, none⟩)) rfl rfl (by kernel_rfl) (by kernel_rfl) (by kernel_rfl) (fun _ _ _ h => h) (.inl ⟨by rfl, fun w'' hS => by go_simp⟩) hS0 ?_
                          (simp only [List.setIfInBounds_toArray, List.set_cons_zero, List.set_cons_succ])
                          refine anyH_take 1 142 (.int .i64 xc) rfl rfl (by kernel_rfl) (by kernel_rfl) (by kernel_rfl) (fun _ _ _ h => h) (.inl ⟨by rfl, fun w'' hS => by have q0 := (HEV.out _ hS).1; go_simp⟩) hS0 ?_
                          (simp only [List.setIfInBounds_toArray, List.set_cons_zero, List.set_cons_succ])
                          refine anyH_take 2 143 (.bool false) rfl rfl (by kernel_rfl) (by kernel_rfl) (by kernel_rfl) (fun _ _ _ h => h) (.inl ⟨by rfl, fun w'' hS => by have q0 := Q0.out; go_simp⟩) hS0 ?_
                          (simp only [List.setIfInBounds_toArray, List.set_cons_zero, List.set_cons_succ])
                          refine anyH_take 3 144 (.bool false) rfl rfl (by kernel_rfl) (by kernel_rfl) (by kernel_rfl) (fun _ _ _ h => h) (.inl ⟨by rfl, fun w'' hS => by go_simp⟩) hS0 ?_
                          (simp only [List.setIfInBounds_toArray, List.set_cons_zero, List.set_cons_succ])
                          refine anyH_take 4 145 (.pointer (some ⟨ge, 0, none⟩)) rfl rfl (by kernel_rfl) (by kernel_rfl) (by kernel_rfl) (fun _ _ _ h => h) (.inl ⟨by rfl, fun w'' hS => by go_simp⟩) hS0 ?_
                          (simp only [List.setIfInBounds_toArray, List.set_cons_zero, List.set_cons_succ])
                          refine anyH_take 5 146 (.int .i64 xc) rfl rfl (by kernel_rfl) (by kernel_rfl) (by kernel_rfl) (fun _ _ _ h => h) (.inl ⟨by rfl, fun w'' hS => by have q0 := (HEV.out _ hS).1; go_simp⟩) hS0 ?_
                          (simp only [List.setIfInBounds_toArray, List.set_cons_zero, List.set_cons_succ])
                          refine anyH_take 6 147 (.bool false) rfl rfl (by kernel_rfl) (by kernel_rfl) (by kernel_rfl) (fun _ _ _ h => h) (.inl ⟨by rfl, fun w'' hS => by have q0 := Q1.out; go_simp⟩) hS0 ?_
                          (simp only [List.setIfInBounds_toArray, List.set_cons_zero, List.set_cons_succ])
                          refine anyH_take 7 148 (.bool false) rfl rfl (by kernel_rfl) (by kernel_rfl) (by kernel_rfl) (fun _ _ _ h => h) (.inl ⟨by rfl, fun w'' hS => by go_simp⟩) hS0 ?_
                          (simp only [List.setIfInBounds_toArray, List.set_cons_zero, List.set_cons_succ])
                          refine anyH_take 8 149 (.bool false) rfl rfl (by kernel_rfl) (by kernel_rfl) (by kernel_rfl) (fun _ _ _ h => h) (.inl ⟨by rfl, fun w'' hS => by go_simp⟩) hS0 ?_
                          (simp only [List.setIfInBounds_toArray, List.set_cons_zero, List.set_cons_succ])
                          refine anyH_take 9 150 (.int .i64 (k2 : Nat)) rfl rfl (by kernel_rfl) (by kernel_rfl) (by kernel_rfl) (fun _ _ _ h => h) (.inl ⟨by rfl, fun w'' hS => by go_simp⟩) hS0 ?_
                          (simp only [List.setIfInBounds_toArray, List.set_cons_zero, List.set_cons_succ])
                          refine anyH_take 10 151 (.bool true) rfl rfl (by kernel_rfl) (by kernel_rfl) (by kernel_rfl) (fun _ _ _ h => h) (.inl ⟨by rfl, fun w'' hS => by have q0 := QK.out; have q1 := QN.out; go_simp⟩) hS0 ?_
                          (simp only [List.setIfInBounds_toArray, List.set_cons_zero, List.set_cons_succ])
                          refine anyH_take 11 152 (.bool true) rfl rfl (by kernel_rfl) (by kernel_rfl) (by kernel_rfl) (fun _ _ _ h => h) (.inl ⟨by rfl, fun w'' hS => by go_simp⟩) hS0 ?_
                          (simp only [List.setIfInBounds_toArray, List.set_cons_zero, List.set_cons_succ])
                          refine anyH_take 12 153 (.pointer (some ⟨ge, 0, none⟩)) rfl rfl (by kernel_rfl) (by kernel_rfl) (by kernel_rfl) (fun _ _ _ h => h) (.inl ⟨by rfl, fun w'' hS => by go_simp⟩) hS0 ?_
                          (simp only [List.setIfInBounds_toArray, List.set_cons_zero, List.set_cons_succ])
                          refine anyH_take 13 154 (.int .i64 xc) rfl rfl (by kernel_rfl) (by kernel_rfl) (by kernel_rfl) (fun _ _ _ h => h) (.inl ⟨by rfl, fun w'' hS => by have q0 := (HEV.out _ hS).1; go_simp⟩) hS0 ?_
                          (simp only [List.setIfInBounds_toArray, List.set_cons_zero, List.set_cons_succ])
                          refine anyH_take 14 155 (.pointer (some ⟨w.heap.size, 4, none⟩)) rfl rfl (by kernel_rfl) (by kernel_rfl) (by kernel_rfl) (fun _ _ _ h => h) (.inl ⟨by rfl, fun w'' hS => by go_simp⟩) hS0 ?_
                          (simp only [List.setIfInBounds_toArray, List.set_cons_zero, List.set_cons_succ])
                          refine anyH_take 15 156 (.slice (some ⟨b2, o2, none⟩) n2 c2) rfl rfl (by kernel_rfl) (by kernel_rfl) (by kernel_rfl) (fun _ _ _ h => h) (.inl ⟨by rfl, fun w'' hS => by have q0 := HX2.out _ hS; go_simp⟩) hS0 ?_
                          (simp only [List.setIfInBounds_toArray, List.set_cons_zero, List.set_cons_succ])
                          refine anyH_take 16 157 (.int .i64 (k2 : Nat)) rfl rfl (by kernel_rfl) (by kernel_rfl) (by kernel_rfl) (fun _ _ _ h => h) (.inl ⟨by rfl, fun w'' hS => by go_simp⟩) hS0 ?_
                          (simp only [List.setIfInBounds_toArray, List.set_cons_zero, List.set_cons_succ])
                          refine anyH_take 17 158 (.int .i64 (p : Nat)) rfl rfl (by kernel_rfl) (by kernel_rfl) (by kernel_rfl) (fun _ _ _ h => h) (.inl ⟨by rfl, fun w'' hS => by have q0 := HPK.out.1; have q1 := HPK.out.2.1; go_simp⟩) hS0 ?_
                          (simp only [List.setIfInBounds_toArray, List.set_cons_zero, List.set_cons_succ])
                          refine anyH_take 18 159 (.pointer (some ⟨b2, o2 + p * 2, none⟩)) rfl rfl (by kernel_rfl) (by kernel_rfl) (by kernel_rfl) (fun _ _ _ h => h) (.inl ⟨by rfl, fun w'' hS => by have q0 := HPK.out.2.2.1; have q1 := HPK.out.2.2.2; go_simp⟩) hS0 ?_
                          (simp only [List.setIfInBounds_toArray, List.set_cons_zero, List.set_cons_succ])
                          refine anyH_take 19 160 (.pointer (some ⟨b2, o2 + p * 2, none⟩)) rfl rfl (by kernel_rfl) (by kernel_rfl) (by kernel_rfl) (fun _ _ _ h => h) (.inl ⟨by rfl, fun w'' hS => by go_simp⟩) hS0 ?_
                          (simp only [List.setIfInBounds_toArray, List.set_cons_zero, List.set_cons_succ])
                          refine anyH_take 20 161 (.int .i64 pc) rfl rfl (by kernel_rfl) (by kernel_rfl) (by kernel_rfl) (fun _ _ _ h => h) (.inl ⟨by rfl, fun w'' hS => by have q0 := HPC.out _ hS; go_simp⟩) hS0 ?_
                          (simp only [List.setIfInBounds_toArray, List.set_cons_zero, List.set_cons_succ])
                          refine anyH_take 21 162 (.bool false) rfl rfl (by kernel_rfl) (by kernel_rfl) (by kernel_rfl) (fun _ _ _ h => h) (.inl ⟨by rfl, fun w'' hS => by have q0 := Q2.out; go_simp⟩) hS0 ?_
                          (simp only [List.setIfInBounds_toArray, List.set_cons_zero, List.set_cons_succ])
                          refine anyH_take 22 163 (.bool false) rfl rfl (by kernel_rfl) (by kernel_rfl) (by kernel_rfl) (fun _ _ _ h => h) (.inl ⟨by rfl, fun w'' hS => by go_simp⟩) hS0 ?_
                          (simp only [List.setIfInBounds_toArray, List.set_cons_zero, List.set_cons_succ])
                          refine anyH_take 23 164 (.bool false) rfl rfl (by kernel_rfl) (by kernel_rfl) (by kernel_rfl) (fun _ _ _ h => h) (.inl ⟨by rfl, fun w'' hS => by go_simp⟩) hS0 ?_
                          (simp only [List.setIfInBounds_toArray, List.set_cons_zero, List.set_cons_succ])
                          refine anyH_take 24 165 (.bool false) rfl rfl (by kernel_rfl) (by kernel_rfl) (by kernel_rfl) (fun _ _ _ h => h) (.inl ⟨by rfl, fun w'' hS => by go_simp⟩) hS0 ?_
                          (simp only [List.setIfInBounds_toArray, List.set_cons_zero, List.set_cons_succ])
                          refine anyH_take 25 166 (.pointer (some ⟨ge, 1, none⟩)) rfl rfl (by kernel_rfl) (by kernel_rfl) (by kernel_rfl) (fun _ _ _ h => h) (.inl ⟨by rfl, fun w'' hS => by go_simp⟩) hS0 ?_
                          (simp only [List.setIfInBounds_toArray, List.set_cons_zero, List.set_cons_succ])
                          refine anyH_take 26 167 (.int .i64 xa) rfl rfl (by kernel_rfl) (by kernel_rfl) (by kernel_rfl) (fun _ _ _ h => h) (.inl ⟨by rfl, fun w'' hS => by have q0 := (HEV.out _ hS).2; go_simp⟩) hS0 ?_
                          (simp only [List.setIfInBounds_toArray, List.set_cons_zero, List.set_cons_succ])
                          refine anyH_one 27 168 (.bool false) (by kernel_rfl) (tame_call 168 rfl rfl (by rfl) (fun w'' hS => by go_simp) (fun w'' hS => ((HSO.out w'').mono fun e w3 he => ⟨he.1, he.2 ▸ hS⟩))) hS0 (fun wq0 hS0 => ?_)
                          (simp only [List.setIfInBounds_toArray, List.set_cons_zero, List.set_cons_succ])
                          refine anyH_take 28 169 (.bool true) rfl rfl (by kernel_rfl) (by kernel_rfl) (by kernel_rfl) (fun _ _ _ h => h) (.inl ⟨by rfl, fun w'' hS => by go_simp⟩) hS0 ?_
                          (simp only [List.setIfInBounds_toArray, List.set_cons_zero, List.set_cons_succ])
                          refine anyH_take 29 170 (.bool true) rfl rfl (by kernel_rfl) (by kernel_rfl) (by kernel_rfl) (fun _ _ _ h => h) (.inl ⟨by rfl, fun w'' hS => by go_simp⟩) hS0 ?_
                          (simp only [List.setIfInBounds_toArray, List.set_cons_zero, List.set_cons_succ])
                          refine wpAnyH_done (by kernel_rfl) ?_ _
                          have HF2 := Lib.hid hS0
                          clear hS0
                          go_wp2_with fail
                          go_ret
                          exact ⟨rfl, HB.out.1.trans (HF1.out.trans HF2.out (fun _ _ q => q)) (fun _ _ q => q)⟩
                        | true =>
                          rw [e3] at HSO
                          have HNX : Hid (txsB 0 (t.txs.take (k2 + 1)) = true) := Lib.hid (by rw [HST.out]; simp [e3, g0, g1, gk, g2, hta]; try omega)
                          clear g0 g1 gk g2 hta e3 HST HFA
                          go_wp2_with fail
                          refine wp_region_held_drew (S := fun w' => Fr (fun _ => False) W1 w') (by kernel_rfl) ((Fr.refl _ W1).drew) (fun hS0 => ?_)
                          refine anyH_take 0 141 (.pointer (some ⟨ge, 0, none⟩)) rfl rfl (by kernel_rfl) (by kernel_rfl) (by kernel_rfl) (fun _ _ _ h => h) (.inl ⟨by rfl, fun w'' hS => by go_simp⟩) hS0 ?_
                          (simp only [List.setIfInBounds_toArray, List.set_cons_zero, List.set_cons_succ])
                          refine anyH_take 1 142 (.int .i64 xc) rfl rfl (by kernel_rfl) (by kernel_rfl) (by kernel_rfl) (fun _ _ _ h => h) (.inl ⟨by rfl, fun w'' hS => by have q0 := (HEV.out _ hS).1; go_simp⟩) hS0 ?_
                          (simp only [List.setIfInBounds_toArray, List.set_cons_zero, List.set_cons_succ])
                          refine anyH_take 2 143 (.bool false) rfl rfl (by kernel_rfl) (by kernel_rfl) (by kernel_rfl) (fun _ _ _ h => h) (.inl ⟨by rfl, fun w'' hS => by have q0 := Q0.out; go_simp⟩) hS0 ?_
                          (simp only [List.setIfInBounds_toArray, List.set_cons_zero, List.set_cons_succ])
                          refine anyH_take 3 144 (.bool false) rfl rfl (by kernel_rfl) (by kernel_rfl) (by kernel_rfl) (fun _ _ _ h => h) (.inl ⟨by rfl, fun w'' hS => by go_simp⟩) hS0 ?_
                          (simp only [List.setIfInBounds_toArray, List.set_cons_zero, List.set_cons_succ])
                          refine anyH_take 4 145 (.pointer (some ⟨ge, 0, none⟩)) rfl rfl (by kernel_rfl) (by kernel_rfl) (by kernel_rfl) (fun _ _ _ h => h) (.inl ⟨by rfl, fun w'' hS => by go_simp⟩) hS0 ?_
                          (simp only [List.setIfInBounds_toArray, List.set_cons_zero, List.set_cons_succ])
                          refine anyH_take 5 146 (.int .i64 xc) rfl rfl (by kernel_rfl) (by kernel_rfl) (by kernel_rfl) (fun _ _ _ h => h) (.inl ⟨by rfl, fun w'' hS => by have q0 := (HEV.out _ hS).1; go_simp⟩) hS0 ?_
                          (simp only [List.setIfInBounds_toArray, List.set_cons_zero, List.set_cons_succ])
                          refine anyH_take 6 147 (.bool false) rfl rfl (by kernel_rfl) (by kernel_rfl) (by kernel_rfl) (fun _ _ _ h => h) (.inl ⟨by rfl, fun w'' hS => by have q0 := Q1.out; go_simp⟩) hS0 ?_
                          (simp only [List.setIfInBounds_toArray, List.set_cons_zero, List.set_cons_succ])
                          refine anyH_take 7 148 (.bool false) rfl rfl (by kernel_rfl) (by kernel_rfl) (by kernel_rfl) (fun _ _ _ h => h) (.inl ⟨by rfl, fun w'' hS => by go_simp⟩) hS0 ?_
                          (simp only [List.setIfInBounds_toArray, List.set_cons_zero, List.set_cons_succ])
                          refine anyH_take 8 149 (.bool false) rfl rfl (by kernel_rfl) (by kernel_rfl) (by kernel_rfl) (fun _ _ _ h => h) (.inl ⟨by rfl, fun w'' hS => by go_simp⟩) hS0 ?_
                          (simp only [List.setIfInBounds_toArray, List.set_cons_zero, List.set_cons_succ])
                          refine anyH_take 9 150 (.int .i64 (k2 : Nat)) rfl rfl (by kernel_rfl) (by kernel_rfl) (by kernel_rfl) (fun _ _ _ h => h) (.inl ⟨by rfl, fun w'' hS => by go_simp⟩) hS0 ?_
                          (simp only [List.setIfInBounds_toArray, List.set_cons_zero, List.set_cons_succ])
                          refine anyH_take 10 151 (.bool true) rfl rfl (by kernel_rfl) (by kernel_rfl) (by kernel_rfl) (fun _ _ _ h => h) (.inl ⟨by rfl, fun w'' hS => by have q0 := QK.out; have q1 := QN.out; go_simp⟩) hS0 ?_
                          (simp only [List.setIfInBounds_toArray, List.set_cons_zero, List.set_cons_succ])
                          refine anyH_take 11 152 (.bool true) rfl rfl (by kernel_rfl) (by kernel_rfl) (by kernel_rfl) (fun _ _ _ h => h) (.inl ⟨by rfl, fun w'' hS => by go_simp⟩) hS0 ?_
                          (simp only [List.setIfInBounds_toArray, List.set_cons_zero, List.set_cons_succ])
                          refine anyH_take 12 153 (.pointer (some ⟨ge, 0, none⟩)) rfl rfl (by kernel_rfl) (by kernel_rfl) (by kernel_rfl) (fun _ _ _ h => h) (.inl ⟨by rfl, fun w'' hS => by go_simp⟩) hS0 ?_
                          (simp only [List.setIfInBounds_toArray, List.set_cons_zero, List.set_cons_succ])
                          refine anyH_take 13 154 (.int .i64 xc) rfl rfl (by kernel_rfl) (by kernel_rfl) (by kernel_rfl) (fun _ _ _ h => h) (.inl ⟨by rfl, fun w'' hS => by have q0 := (HEV.out _ hS).1; go_simp⟩) hS0 ?_
                          (simp only [List.setIfInBounds_toArray, List.set_cons_zero, List.set_cons_succ])
                          refine anyH_take 14 155 (.pointer (some ⟨w.heap.size, 4, none⟩)) rfl rfl (by kernel_rfl) (by kernel_rfl) (by kernel_rfl) (fun _ _ _ h => h) (.inl ⟨by rfl, fun w'' hS => by go_simp⟩) hS0 ?_
                          (simp only [List.setIfInBounds_toArray, List.set_cons_zero, List.set_cons_succ])
                          refine anyH_take 15 156 (.slice (some ⟨b2, o2, none⟩) n2 c2) rfl rfl (by kernel_rfl) (by kernel_rfl) (by kernel_rfl) (fun _ _ _ h => h) (.inl ⟨by rfl, fun w'' hS => by have q0 := HX2.out _ hS; go_simp⟩) hS0 ?_
                          (simp only [List.setIfInBounds_toArray, List.set_cons_zero, List.set_cons_succ])
                          refine anyH_take 16 157 (.int .i64 (k2 : Nat)) rfl rfl (by kernel_rfl) (by kernel_rfl) (by kernel_rfl) (fun _ _ _ h => h) (.inl ⟨by rfl, fun w'' hS => by go_simp⟩) hS0 ?_
                          (simp only [List.setIfInBounds_toArray, List.set_cons_zero, List.set_cons_succ])
                          refine anyH_take 17 158 (.int .i64 (p : Nat)) rfl rfl (by kernel_rfl) (by kernel_rfl) (by kernel_rfl) (fun _ _ _ h => h) (.inl ⟨by rfl, fun w'' hS => by have q0 := HPK.out.1; have q1 := HPK.out.2.1; go_simp⟩) hS0 ?_
                          (simp only [List.setIfInBounds_toArray, List.set_cons_zero, List.set_cons_succ])
                          refine anyH_take 18 159 (.pointer (some ⟨b2, o2 + p * 2, none⟩)) rfl rfl (by kernel_rfl) (by kernel_rfl) (by kernel_rfl) (fun _ _ _ h => h) (.inl ⟨by rfl, fun w'' hS => by have q0 := HPK.out.2.2.1; have q1 := HPK.out.2.2.2; go_simp⟩) hS0 ?_
                          (simp only [List.setIfInBounds_toArray, List.set_cons_zero, List.set_cons_succ])
                          refine anyH_take 19 160 (.pointer (some ⟨b2, o2 + p * 2, none⟩)) rfl rfl (by kernel_rfl) (by kernel_rfl) (by kernel_rfl) (fun _ _ _ h => h) (.inl ⟨by rfl, fun w'' hS => by go_simp⟩) hS0 ?_
                          (simp only [List.setIfInBounds_toArray, List.set_cons_zero, List.set_cons_succ])
                          refine anyH_take 20 161 (.int .i64 pc) rfl rfl (by kernel_rfl) (by kernel_rfl) (by kernel_rfl) (fun _ _ _ h => h) (.inl ⟨by rfl, fun w'' hS => by have q0 := HPC.out _ hS; go_simp⟩) hS0 ?_
                          (simp only [List.setIfInBounds_toArray, List.set_cons_zero, List.set_cons_succ])
                          refine anyH_take 21 162 (.bool false) rfl rfl (by kernel_rfl) (by kernel_rfl) (by kernel_rfl) (fun _ _ _ h => h) (.inl ⟨by rfl, fun w'' hS => by have q0 := Q2.out; go_simp⟩) hS0 ?_
                          (simp only [List.setIfInBounds_toArray, List.set_cons_zero, List.set_cons_succ])
                          refine anyH_take 22 163 (.bool false) rfl rfl (by kernel_rfl) (by kernel_rfl) (by kernel_rfl) (fun _ _ _ h => h) (.inl ⟨by rfl, fun w'' hS => by go_simp⟩) hS0 ?_
                          (simp only [List.setIfInBounds_toArray, List.set_cons_zero, List.set_cons_succ])
                          refine anyH_take 23 164 (.bool false) rfl rfl (by kernel_rfl) (by kernel_rfl) (by kernel_rfl) (fun _ _ _ h => h) (.inl ⟨by rfl, fun w'' hS => by go_simp⟩) hS0 ?_
                          (simp only [List.setIfInBounds_toArray, List.set_cons_zero, List.set_cons_succ])
                          refine anyH_take 24 165 (.bool false) rfl rfl (by kernel_rfl) (by kernel_rfl) (by kernel_rfl) (fun _ _ _ h => h) (.inl ⟨by rfl, fun w'' hS => by go_simp⟩) hS0 ?_
                          (simp only [List.setIfInBounds_toArray, List.set_cons_zero, List.set_cons_succ])
                          refine anyH_take 25 166 (.pointer (some ⟨ge, 1, none⟩)) rfl rfl (by kernel_rfl) (by kernel_rfl) (by kernel_rfl) (fun _ _ _ h => h) (.inl ⟨by rfl, fun w'' hS => by go_simp⟩) hS0 ?_
                          (simp only [List.setIfInBounds_toArray, List.set_cons_zero, List.set_cons_succ])
                          refine anyH_take 26 167 (.int .i64 xa) rfl rfl (by kernel_rfl) (by kernel_rfl) (by kernel_rfl) (fun _ _ _ h => h) (.inl ⟨by rfl, fun w'' hS => by have q0 := (HEV.out _ hS).2; go_simp⟩) hS0 ?_
                          (simp only [List.setIfInBounds_toArray, List.set_cons_zero, List.set_cons_succ])
                          refine anyH_one 27 168 (.bool true) (by kernel_rfl) (tame_call 168 rfl rfl (by rfl) (fun w'' hS => by go_simp) (fun w'' hS => ((HSO.out w'').mono fun e w3 he => ⟨he.1, he.2 ▸ hS⟩))) hS0 (fun wq0 hS0 => ?_)
                          (simp only [List.setIfInBounds_toArray, List.set_cons_zero, List.set_cons_succ])
                          refine anyH_take 28 169 (.bool false) rfl rfl (by kernel_rfl) (by kernel_rfl) (by kernel_rfl) (fun _ _ _ h => h) (.inl ⟨by rfl, fun w'' hS => by go_simp⟩) hS0 ?_
                          (simp only [List.setIfInBounds_toArray, List.set_cons_zero, List.set_cons_succ])
                          refine anyH_take 29 170 (.bool false) rfl rfl (by kernel_rfl) (by kernel_rfl) (by kernel_rfl) (fun _ _ _ h => h) (.inl ⟨by rfl, fun w'' hS => by go_simp⟩) hS0 ?_
                          (simp only [List.setIfInBounds_toArray, List.set_cons_zero, List.set_cons_succ])
                          refine wpAnyH_done (by kernel_rfl) ?_ _
                          have HF2 := Lib.hid hS0
                          clear hS0
                          go_wp2_with fail
                          refine ⟨⟨k2 + 1, by go_num, by have := HXY.out.2; omega, HNX, Lib.hid (HF1.out.trans HF2.out (fun _ _ q => q))⟩, ?_⟩
                          simp [intOf]
                          have := HXY.out.2
                          omega
                      · have Q2 : Hid (xc ≤ pc) := Lib.hid (by omega)
                        obtain rfl : r = false := HFA.out (by rw [HST.out]; simp [gk, hta, g2])
                        clear g0 g1 gk g2 hta HST HFA
                        go_wp2_with fail
                        refine wp_region_held_drew (S := fun w' => Fr (fun _ => False) W1 w') (by kernel_rfl) ((Fr.refl _ W1).drew) (fun hS0 => ?_)
                        refine anyH_take 0 141 (.pointer (some ⟨ge, 0, none⟩)) rfl rfl (by kernel_rfl) (by kernel_rfl) (by kernel_rfl) (fun _ _ _ h => h) (.inl ⟨by rfl, fun w'' hS => by go_simp⟩) hS0 ?_
                        (simp only [List.setIfInBounds_toArray, List.set_cons_zero, List.set_cons_succ])
                        refine anyH_take 1 142 (.int .i64 xc) rfl rfl (by kernel_rfl) (by kernel_rfl) (by kernel_rfl) (fun _ _ _ h => h) (.inl ⟨by rfl, fun w'' hS => by have q0 := (HEV.out _ hS).1; go_simp⟩) hS0 ?_
                        (simp only [List.setIfInBounds_toArray, List.set_cons_zero, List.set_cons_succ])
                        refine anyH_take 2 143 (.bool false) rfl rfl (by kernel_rfl) (by kernel_rfl) (by kernel_rfl) (fun _ _ _ h => h) (.inl ⟨by rfl, fun w'' hS => by have q0 := Q0.out; go_simp⟩) hS0 ?_
                        (simp only [List.setIfInBounds_toArray, List.set_cons_zero, List.set_cons_succ])
                        refine anyH_take 3 144 (.bool false) rfl rfl (by kernel_rfl) (by kernel_rfl) (by kernel_rfl) (fun _ _ _ h => h) (.inl ⟨by rfl, fun w'' hS => by go_simp⟩) hS0 ?_
                        (simp only [List.setIfInBounds_toArray, List.set_cons_zero, List.set_cons_succ])
                        refine anyH_take 4 145 (.pointer (some ⟨ge, 0, none⟩)) rfl rfl (by kernel_rfl) (by kernel_rfl) (by kernel_rfl) (fun _ _ _ h => h) (.inl ⟨by rfl, fun w'' hS => by go_simp⟩) hS0 ?_
                        (simp only [List.setIfInBounds_toArray, List.set_cons_zero, List.set_cons_succ])
                        refine anyH_take 5 146 (.int .i64 xc) rfl rfl (by kernel_rfl) (by kernel_rfl) (by kernel_rfl) (fun _ _ _ h => h) (.inl ⟨by rfl, fun w'' hS => by have q0 := (HEV.out _ hS).1; go_simp⟩) hS0 ?_
                        (simp only [List.setIfInBounds_toArray, List.set_cons_zero, List.set_cons_succ])
                        refine anyH_take 6 147 (.bool false) rfl rfl (by kernel_rfl) (by kernel_rfl) (by kernel_rfl) (fun _ _ _ h => h) (.inl ⟨by rfl, fun w'' hS => by have q0 := Q1.out; go_simp⟩) hS0 ?_
                        (simp only [List.setIfInBounds_toArray, List.set_cons_zero, List.set_cons_succ])
                        refine anyH_take 7 148 (.bool false) rfl rfl (by kernel_rfl) (by kernel_rfl) (by kernel_rfl) (fun _ _ _ h => h) (.inl ⟨by rfl, fun w'' hS => by go_simp⟩) hS0 ?_
                        (simp only [List.setIfInBounds_toArray, List.set_cons_zero, List.set_cons_succ])
                        refine anyH_take 8 149 (.bool false) rfl rfl (by kernel_rfl) (by kernel_rfl) (by kernel_rfl) (fun _ _ _ h => h) (.inl ⟨by rfl, fun w'' hS => by go_simp⟩) hS0 ?_
                        (simp only [List.setIfInBounds_toArray, List.set_cons_zero, List.set_cons_succ])
                        refine anyH_take 9 150 (.int .i64 (k2 : Nat)) rfl rfl (by kernel_rfl) (by kernel_rfl) (by kernel_rfl) (fun _ _ _ h => h) (.inl ⟨by rfl, fun w'' hS => by go_simp⟩) hS0 ?_
                        (simp only [List.setIfInBounds_toArray, List.set_cons_zero, List.set_cons_succ])
                        refine anyH_take 10 151 (.bool true) rfl rfl (by kernel_rfl) (by kernel_rfl) (by kernel_rfl) (fun _ _ _ h => h) (.inl ⟨by rfl, fun w'' hS => by have q0 := QK.out; have q1 := QN.out; go_simp⟩) hS0 ?_
                        (simp only [List.setIfInBounds_toArray, List.set_cons_zero, List.set_cons_succ])
                        refine anyH_take 11 152 (.bool true) rfl rfl (by kernel_rfl) (by kernel_rfl) (by kernel_rfl) (fun _ _ _ h => h) (.inl ⟨by rfl, fun w'' hS => by go_simp⟩) hS0 ?_
                        (simp only [List.setIfInBounds_toArray, List.set_cons_zero, List.set_cons_succ])
                        refine anyH_take 12 153 (.pointer (some ⟨ge, 0, none⟩)) rfl rfl (by kernel_rfl) (by kernel_rfl) (by kernel_rfl) (fun _ _ _ h => h) (.inl ⟨by rfl, fun w'' hS => by go_simp⟩) hS0 ?_
                        (simp only [List.setIfInBounds_toArray, List.set_cons_zero, List.set_cons_succ])
                        refine anyH_take 13 154 (.int .i64 xc) rfl rfl (by kernel_rfl) (by kernel_rfl) (by kernel_rfl) (fun _ _ _ h => h) (.inl ⟨by rfl, fun w'' hS => by have q0 := (HEV.out _ hS).1; go_simp⟩) hS0 ?_
                        (simp only [List.setIfInBounds_toArray, List.set_cons_zero, List.set_cons_succ])
                        refine anyH_take 14 155 (.pointer (some ⟨w.heap.size, 4, none⟩)) rfl rfl (by kernel_rfl) (by kernel_rfl) (by kernel_rfl) (fun _ _ _ h => h) (.inl ⟨by rfl, fun w'' hS => by go_simp⟩) hS0 ?_
                        (simp only [List.setIfInBounds_toArray, List.set_cons_zero, List.set_cons_succ])
                        refine anyH_take 15 156 (.slice (some ⟨b2, o2, none⟩) n2 c2) rfl rfl (by kernel_rfl) (by kernel_rfl) (by kernel_rfl) (fun _ _ _ h => h) (.inl ⟨by rfl, fun w'' hS => by have q0 := HX2.out _ hS; go_simp⟩) hS0 ?_
                        (simp only [List.setIfInBounds_toArray, List.set_cons_zero, List.set_cons_succ])
                        refine anyH_take 16 157 (.int .i64 (k2 : Nat)) rfl rfl (by kernel_rfl) (by kernel_rfl) (by kernel_rfl) (fun _ _ _ h => h) (.inl ⟨by rfl, fun w'' hS => by go_simp⟩) hS0 ?_
                        (simp only [List.setIfInBounds_toArray, List.set_cons_zero, List.set_cons_succ])
                        refine anyH_take 17 158 (.int .i64 (p : Nat)) rfl rfl (by kernel_rfl) (by kernel_rfl) (by kernel_rfl) (fun _ _ _ h => h) (.inl ⟨by rfl, fun w'' hS => by have q0 := HPK.out.1; have q1 := HPK.out.2.1; go_simp⟩) hS0 ?_
                        (simp only [List.setIfInBounds_toArray, List.set_cons_zero, List.set_cons_succ])
                        refine anyH_take 18 159 (.pointer (some ⟨b2, o2 + p * 2, none⟩)) rfl rfl (by kernel_rfl) (by kernel_rfl) (by kernel_rfl) (fun _ _ _ h => h) (.inl ⟨by rfl, fun w'' hS => by have q0 := HPK.out.2.2.1; have q1 := HPK.out.2.2.2; go_simp⟩) hS0 ?_
                        (simp only [List.setIfInBounds_toArray, List.set_cons_zero, List.set_cons_succ])
                        refine anyH_take 19 160 (.pointer (some ⟨b2, o2 + p * 2, none⟩)) rfl rfl (by kernel_rfl) (by kernel_rfl) (by kernel_rfl) (fun _ _ _ h => h) (.inl ⟨by rfl, fun w'' hS => by go_simp⟩) hS0 ?_
                        (simp only [List.setIfInBounds_toArray, List.set_cons_zero, List.set_cons_succ])
                        refine anyH_take 20 161 (.int .i64 pc) rfl rfl (by kernel_rfl) (by kernel_rfl) (by kernel_rfl) (fun _ _ _ h => h) (.inl ⟨by rfl, fun w'' hS => by have q0 := HPC.out _ hS; go_simp⟩) hS0 ?_
                        (simp only [List.setIfInBounds_toArray, List.set_cons_zero, List.set_cons_succ])
                        refine anyH_take 21 162 (.bool true) rfl rfl (by kernel_rfl) (by kernel_rfl) (by kernel_rfl) (fun _ _ _ h => h) (.inl ⟨by rfl, fun w'' hS => by have q0 := Q2.out; go_simp⟩) hS0 ?_
                        (simp only [List.setIfInBounds_toArray, List.set_cons_zero, List.set_cons_succ])
                        refine anyH_take 22 163 (.bool true) rfl rfl (by kernel_rfl) (by kernel_rfl) (by kernel_rfl) (fun _ _ _ h => h) (.inl ⟨by rfl, fun w'' hS => by go_simp⟩) hS0 ?_
                        (simp only [List.setIfInBounds_toArray, List.set_cons_zero, List.set_cons_succ])
                        refine anyH_take 23 164 (.bool true) rfl rfl (by kernel_rfl) (by kernel_rfl) (by kernel_rfl) (fun _ _ _ h => h) (.inl ⟨by rfl, fun w'' hS => by go_simp⟩) hS0 ?_
                        (simp only [List.setIfInBounds_toArray, List.set_cons_zero, List.set_cons_succ])
                        refine anyH_take 24 165 (.bool true) rfl rfl (by kernel_rfl) (by kernel_rfl) (by kernel_rfl) (fun _ _ _ h => h) (.inl ⟨by rfl, fun w'' hS => by go_simp⟩) hS0 ?_
                        (simp only [List.setIfInBounds_toArray, List.set_cons_zero, List.set_cons_succ])
                        refine anyH_take 25 166 undef rfl rfl (by kernel_rfl) (by kernel_rfl) (by kernel_rfl) (fun _ _ _ h => h) (.inr ⟨by rfl, rfl⟩) hS0 ?_
                        (simp only [List.setIfInBounds_toArray, List.set_cons_zero, List.set_cons_succ])
                        refine anyH_take 26 167 undef rfl rfl (by kernel_rfl) (by kernel_rfl) (by kernel_rfl) (fun _ _ _ h => h) (.inr ⟨by rfl, rfl⟩) hS0 ?_
                        (simp only [List.setIfInBounds_toArray, List.set_cons_zero, List.set_cons_succ])
                        refine anyH_take 27 168 undef rfl rfl (by kernel_rfl) (by kernel_rfl) (by kernel_rfl) (fun _ _ _ h => h) (.inr ⟨by rfl, rfl⟩) hS0 ?_
                        (simp only [List.setIfInBounds_toArray, List.set_cons_zero, List.set_cons_succ])
                        refine anyH_take 28 169 undef rfl rfl (by kernel_rfl) (by kernel_rfl) (by kernel_rfl) (fun _ _ _ h => h) (.inr ⟨by rfl, rfl⟩) hS0 ?_
                        (simp only [List.setIfInBounds_toArray, List.set_cons_zero, List.set_cons_succ])
                        refine anyH_take 29 170 (.bool true) rfl rfl (by kernel_rfl) (by kernel_rfl) (by kernel_rfl) (fun _ _ _ h => h) (.inl ⟨by rfl, fun w'' hS => by go_simp⟩) hS0 ?_
                        (simp only [List.setIfInBounds_toArray, List.set_cons_zero, List.set_cons_succ])
                        refine wpAnyH_done (by kernel_rfl) ?_ _
                        have HF2 := Lib.hid hS0
                        clear hS0
                        go_wp2_with fail
                        go_ret
                        exact ⟨rfl, HB.out.1.trans (HF1.out.trans HF2.out (fun _ _ q => q)) (fun _ _ q => q)⟩
                  · have Q1 : Hid (99 < xc) := Lib.hid (by omega)
                    obtain rfl : r = false := HFA.out (by rw [HST.out]; simp [g1])
                    clear g0 g1 HST HFA
                    go_wp2_with fail
                    refine wp_region_held_drew (S := fun w' => Fr (fun _ => False) W1 w') (by kernel_rfl) ((Fr.refl _ W1).drew) (fun hS0 => ?_)
                    refine anyH_take 0 141 (.pointer (some ⟨ge, 0, none⟩)) rfl rfl (by kernel_rfl) (by kernel_rfl) (by kernel_rfl) (fun _ _ _ h => h) (.inl ⟨by rfl, fun w'' hS => by go_simp⟩) hS0 ?_
                    (simp only [List.setIfInBounds_toArray, List.set_cons_zero, List.set_cons_succ])
                    refine anyH_take 1 142 (.int .i64 xc) rfl rfl (by kernel_rfl) (by kernel_rfl) (by kernel_rfl) (fun _ _ _ h => h) (.inl ⟨by rfl, fun w'' hS => by have q0 := (HEV.out _ hS).1; go_simp⟩) hS0 ?_
                    (simp only [List.setIfInBounds_toArray, List.set_cons_zero, List.set_cons_succ])
                    refine anyH_take 2 143 (.bool false) rfl rfl (by kernel_rfl) (by kernel_rfl) (by kernel_rfl) (fun _ _ _ h => h) (.inl ⟨by rfl, fun w'' hS => by have q0 := Q0.out; go_simp⟩) hS0 ?_
                    (simp only [List.setIfInBounds_toArray, List.set_cons_zero, List.set_cons_succ])
                    refine anyH_take 3 144 (.bool false) rfl rfl (by kernel_rfl) (by kernel_rfl) (by kernel_rfl) (fun _ _ _ h => h) (.inl ⟨by rfl, fun w'' hS => by go_simp⟩) hS0 ?_
                    (simp only [List.setIfInBounds_toArray, List.set_cons_zero, List.set_cons_succ])
                    refine anyH_take 4 145 (.pointer (some ⟨ge, 0, none⟩)) rfl rfl (by kernel_rfl) (by kernel_rfl) (by kernel_rfl) (fun _ _ _ h => h) (.inl ⟨by rfl, fun w'' hS => by go_simp⟩) hS0 ?_
                    (simp only [List.setIfInBounds_toArray, List.set_cons_zero, List.set_cons_succ])
                    refine anyH_take 5 146 (.int .i64 xc) rfl rfl (by kernel_rfl) (by kernel_rfl) (by kernel_rfl) (fun _ _ _ h => h) (.inl ⟨by rfl, fun w'' hS => by have q0 := (HEV.out _ hS).1; go_simp⟩) hS0 ?_
                    (simp only [List.setIfInBounds_toArray, List.set_cons_zero, List.set_cons_succ])
                    refine anyH_take 6 147 (.bool true) rfl rfl (by kernel_rfl) (by kernel_rfl) (by kernel_rfl) (fun _ _ _ h => h) (.inl ⟨by rfl, fun w'' hS => by have q0 := Q1.out; go_simp⟩) hS0 ?_
                    (simp only [List.setIfInBounds_toArray, List.set_cons_zero, List.set_cons_succ])
                    refine anyH_take 7 148 (.bool true) rfl rfl (by kernel_rfl) (by kernel_rfl) (by kernel_rfl) (fun _ _ _ h => h) (.inl ⟨by rfl, fun w'' hS => by go_simp⟩) hS0 ?_
                    (simp only [List.setIfInBounds_toArray, List.set_cons_zero, List.set_cons_succ])
                    refine anyH_take 8 149 (.bool true) rfl rfl (by kernel_rfl) (by kernel_rfl) (by kernel_rfl) (fun _ _ _ h => h) (.inl ⟨by rfl, fun w'' hS => by go_simp⟩) hS0 ?_
                    (simp only [List.setIfInBounds_toArray, List.set_cons_zero, List.set_cons_succ])
                    refine anyH_take 9 150 undef rfl rfl (by kernel_rfl) (by kernel_rfl) (by kernel_rfl) (fun _ _ _ h => h) (.inr ⟨by rfl, rfl⟩) hS0 ?_
                    (simp only [List.setIfInBounds_toArray, List.set_cons_zero, List.set_cons_succ])
                    refine anyH_take 10 151 undef rfl rfl (by kernel_rfl) (by kernel_rfl) (by kernel_rfl) (fun _ _ _ h => h) (.inr ⟨by rfl, rfl⟩) hS0 ?_
                    (simp only [List.setIfInBounds_toArray, List.set_cons_zero, List.set_cons_succ])
                    refine anyH_take 11 152 undef rfl rfl (by kernel_rfl) (by kernel_rfl) (by kernel_rfl) (fun _ _ _ h => h) (.inr ⟨by rfl, rfl⟩) hS0 ?_
                    (simp only [List.setIfInBounds_toArray, List.set_cons_zero, List.set_cons_succ])
                    refine anyH_take 12 153 undef rfl rfl (by kernel_rfl) (by kernel_rfl) (by kernel_rfl) (fun _ _ _ h => h) (.inr ⟨by rfl, rfl⟩) hS0 ?_
                    (simp only [List.setIfInBounds_toArray, List.set_cons_zero, List.set_cons_succ])
                    refine anyH_take 13 154 undef rfl rfl (by kernel_rfl) (by kernel_rfl) (by kernel_rfl) (fun _ _ _ h => h) (.inr ⟨by rfl, rfl⟩) hS0 ?_
                    (simp only [List.setIfInBounds_toArray, List.set_cons_zero, List.set_cons_succ])
                    refine anyH_take 14 155 undef rfl rfl (by kernel_rfl) (by kernel_rfl) (by kernel_rfl) (fun _ _ _ h => h) (.inr ⟨by rfl, rfl⟩) hS0 ?_
                    (simp only [List.setIfInBounds_toArray, List.set_cons_zero, List.set_cons_succ])
                    refine anyH_take 15 156 undef rfl rfl (by kernel_rfl) (by kernel_rfl) (by kernel_rfl) (fun _ _ _ h => h) (.inr ⟨by rfl, rfl⟩) hS0 ?_
                    (simp only [List.setIfInBounds_toArray, List.set_cons_zero, List.set_cons_succ])
                    refine anyH_take 16 157 undef rfl rfl (by kernel_rfl) (by kernel_rfl) (by kernel_rfl) (fun _ _ _ h => h) (.inr ⟨by rfl, rfl⟩) hS0 ?_
                    (simp only [List.setIfInBounds_toArray, List.set_cons_zero, List.set_cons_succ])
                    refine anyH_take 17 158 undef rfl rfl (by kernel_rfl) (by kernel_rfl) (by kernel_rfl) (fun _ _ _ h => h) (.inr ⟨by rfl, rfl⟩) hS0 ?_
                    (simp only [List.setIfInBounds_toArray, List.set_cons_zero, List.set_cons_succ])
                    refine anyH_take 18 159 undef rfl rfl (by kernel_rfl) (by kernel_rfl) (by kernel_rfl) (fun _ _ _ h => h) (.inr ⟨by rfl, rfl⟩) hS0 ?_
                    (simp only [List.setIfInBounds_toArray, List.set_cons_zero, List.set_cons_succ])
                    refine anyH_take 19 160 undef rfl rfl (by kernel_rfl) (by kernel_rfl) (by kernel_rfl) (fun _ _ _ h => h) (.inr ⟨by rfl, rfl⟩) hS0 ?_
                    (simp only [List.setIfInBounds_toArray, List.set_cons_zero, List.set_cons_succ])
                    refine anyH_take 20 161 undef rfl rfl (by kernel_rfl) (by kernel_rfl) (by kernel_rfl) (fun _ _ _ h => h) (.inr ⟨by rfl, rfl⟩) hS0 ?_
                    (simp only [List.setIfInBounds_toArray, List.set_cons_zero, List.set_cons_succ])
                    refine anyH_take 21 162 undef rfl rfl (by kernel_rfl) (by kernel_rfl) (by kernel_rfl) (fun _ _ _ h => h) (.inr ⟨by rfl, rfl⟩) hS0 ?_
                    (simp only [List.setIfInBounds_toArray, List.set_cons_zero, List.set_cons_succ])
                    refine anyH_take 22 163 undef rfl rfl (by kernel_rfl) (by kernel_rfl) (by kernel_rfl) (fun _ _ _ h => h) (.inr ⟨by rfl, rfl⟩) hS0 ?_
                    (simp only [List.setIfInBounds_toArray, List.set_cons_zero, List.set_cons_succ])
                    refine anyH_take 23 164 (.bool true) rfl rfl (by kernel_rfl) (by kernel_rfl) (by kernel_rfl) (fun _ _ _ h => h) (.inl ⟨by rfl, fun w'' hS => by go_simp⟩) hS0 ?_
                    (simp only [List.setIfInBounds_toArray, List.set_cons_zero, List.set_cons_succ])
                    refine anyH_take 24 165 (.bool true) rfl rfl (by kernel_rfl) (by kernel_rfl) (by kernel_rfl) (fun _ _ _ h => h) (.inl ⟨by rfl, fun w'' hS => by go_simp⟩) hS0 ?_
                    (simp only [List.setIfInBounds_toArray, List.set_cons_zero, List.set_cons_succ])
                    refine anyH_take 25 166 undef rfl rfl (by kernel_rfl) (by kernel_rfl) (by kernel_rfl) (fun _ _ _ h => h) (.inr ⟨by rfl, rfl⟩) hS0 ?_
                    (simp only [List.setIfInBounds_toArray, List.set_cons_zero, List.set_cons_succ])
                    refine anyH_take 26 167 undef rfl rfl (by kernel_rfl) (by kernel_rfl) (by kernel_rfl) (fun _ _ _ h => h) (.inr ⟨by rfl, rfl⟩) hS0 ?_
                    (simp only [List.setIfInBounds_toArray, List.set_cons_zero, List.set_cons_succ])
                    refine anyH_take 27 168 undef rfl rfl (by kernel_rfl) (by kernel_rfl) (by kernel_rfl) (fun _ _ _ h => h) (.inr ⟨by rfl, rfl⟩) hS0 ?_
                    (simp only [List.setIfInBounds_toArray, List.set_cons_zero, List.set_cons_succ])
                    refine anyH_take 28 169 undef rfl rfl (by kernel_rfl) (by kernel_rfl) (by kernel_rfl) (fun _ _ _ h => h) (.inr ⟨by rfl, rfl⟩) hS0 ?_
                    (simp only [List.setIfInBounds_toArray, List.set_cons_zero, List.set_cons_succ])
                    refine anyH_take 29 170 (.bool true) rfl rfl (by kernel_rfl) (by kernel_rfl) (by kernel_rfl) (fun _ _ _ h => h) (.inl ⟨by rfl, fun w'' hS => by go_simp⟩) hS0 ?_
                    (simp only [List.setIfInBounds_toArray, List.set_cons_zero, List.set_cons_succ])
                    refine wpAnyH_done (by kernel_rfl) ?_ _
                    have HF2 := Lib.hid hS0
                    clear hS0
                    go_wp2_with fail
                    go_ret
                    exact ⟨rfl, HB.out.1.trans (HF1.out.trans HF2.out (fun _ _ q => q)) (fun _ _ q => q)⟩
                · have Q0 : Hid (xc < 1) := Lib.hid (by omega)
                  obtain rfl : r = false := HFA.out (by rw [HST.out]; simp [g0])
                  clear g0 HST HFA
                  go_wp2_with fail
                  refine wp_region_held_drew (S := fun w' => Fr (fun _ => False) W1 w') (by kernel_rfl) ((Fr.refl _ W1).drew) (fun hS0 => ?_)
                  refine anyH_take 0 141 (.pointer (some ⟨ge, 0, none⟩)) rfl rfl (by kernel_rfl) (by kernel_rfl) (by kernel_rfl) (fun _ _ _ h => h) (.inl ⟨by rfl, fun w'' hS => by go_simp⟩) hS0 ?_
                  (simp only [List.setIfInBounds_toArray, List.set_cons_zero, List.set_cons_succ])
                  refine anyH_take 1 142 (.int .i64 xc) rfl rfl (by kernel_rfl) (by kernel_rfl) (by kernel_rfl) (fun _ _ _ h => h) (.inl ⟨by rfl, fun w'' hS => by have q0 := (HEV.out _ hS).1; go_simp⟩) hS0 ?_
                  (simp only [List.setIfInBounds_toArray, List.set_cons_zero, List.set_cons_succ])
                  refine anyH_take 2 143 (.bool true) rfl rfl (by kernel_rfl) (by kernel_rfl) (by kernel_rfl) (fun _ _ _ h => h) (.inl ⟨by rfl, fun w'' hS => by have q0 := Q0.out; go_simp⟩) hS0 ?_
                  (simp only [List.setIfInBounds_toArray, List.set_cons_zero, List.set_cons_succ])
                  refine anyH_take 3 144 (.bool true) rfl rfl (by kernel_rfl) (by kernel_rfl) (by kernel_rfl) (fun _ _ _ h => h) (.inl ⟨by rfl, fun w'' hS => by go_simp⟩) hS0 ?_
                  (simp only [List.setIfInBounds_toArray, List.set_cons_zero, List.set_cons_succ])
                  refine anyH_take 4 145 undef rfl rfl (by kernel_rfl) (by kernel_rfl) (by kernel_rfl) (fun _ _ _ h => h) (.inr ⟨by rfl, rfl⟩) hS0 ?_
                  (simp only [List.setIfInBounds_toArray, List.set_cons_zero, List.set_cons_succ])
                  refine anyH_take 5 146 undef rfl rfl (by kernel_rfl) (by kernel_rfl) (by kernel_rfl) (fun _ _ _ h => h) (.inr ⟨by rfl, rfl⟩) hS0 ?_
                  (simp only [List.setIfInBounds_toArray, List.set_cons_zero, List.set_cons_succ])
                  refine anyH_take 6 147 undef rfl rfl (by kernel_rfl) (by kernel_rfl) (by kernel_rfl) (fun _ _ _ h => h) (.inr ⟨by rfl, rfl⟩) hS0 ?_
                  (simp only [List.setIfInBounds_toArray, List.set_cons_zero, List.set_cons_succ])
                  refine anyH_take 7 148 (.bool true) rfl rfl (by kernel_rfl) (by kernel_rfl) (by kernel_rfl) (fun _ _ _ h => h) (.inl ⟨by rfl, fun w'' hS => by go_simp⟩) hS0 ?_
                  (simp only [List.setIfInBounds_toArray, List.set_cons_zero, List.set_cons_succ])
                  refine anyH_take 8 149 (.bool true) rfl rfl (by kernel_rfl) (by kernel_rfl) (by kernel_rfl) (fun _ _ _ h => h) (.inl ⟨by rfl, fun w'' hS => by go_simp⟩) hS0 ?_
                  (simp only [List.setIfInBounds_toArray, List.set_cons_zero, List.set_cons_succ])
                  refine anyH_take 9 150 undef rfl rfl (by kernel_rfl) (by kernel_rfl) (by kernel_rfl) (fun _ _ _ h => h) (.inr ⟨by rfl, rfl⟩) hS0 ?_
                  (simp only [List.setIfInBounds_toArray, List.set_cons_zero, List.set_cons_succ])
                  refine anyH_take 10 151 undef rfl rfl (by kernel_rfl) (by kernel_rfl) (by kernel_rfl) (fun _ _ _ h => h) (.inr ⟨by rfl, rfl⟩) hS0 ?_
                  (simp only [List.setIfInBounds_toArray, List.set_cons_zero, List.set_cons_succ])
                  refine anyH_take 11 152 undef rfl rfl (by kernel_rfl) (by kernel_rfl) (by kernel_rfl) (fun _ _ _ h => h) (.inr ⟨by rfl, rfl⟩) hS0 ?_
                  (simp only [List.setIfInBounds_toArray, List.set_cons_zero, List.set_cons_succ])
                  refine anyH_take 12 153 undef rfl rfl (by kernel_rfl) (by kernel_rfl) (by kernel_rfl) (fun _ _ _ h => h) (.inr ⟨by rfl, rfl⟩) hS0 ?_
                  (simp only [List.setIfInBounds_toArray, List.set_cons_zero, List.set_cons_succ])
                  refine anyH_take 13 154 undef rfl rfl (by kernel_rfl) (by kernel_rfl) (by kernel_rfl) (fun _ _ _ h => h) (.inr ⟨by rfl, rfl⟩) hS0 ?_
                  (simp only [List.setIfInBounds_toArray, List.set_cons_zero, List.set_cons_succ])
                  refine anyH_take 14 155 undef rfl rfl (by kernel_rfl) (by kernel_rfl) (by kernel_rfl) (fun _ _ _ h => h) (.inr ⟨by rfl, rfl⟩) hS0 ?_
                  (simp only [List.setIfInBounds_toArray, List.set_cons_zero, List.set_cons_succ])
                  refine anyH_take 15 156 undef rfl rfl (by kernel_rfl) (by kernel_rfl) (by kernel_rfl) (fun _ _ _ h => h) (.inr ⟨by rfl, rfl⟩) hS0 ?_
                  (simp only [List.setIfInBounds_toArray, List.set_cons_zero, List.set_cons_succ])
                  refine anyH_take 16 157 undef rfl rfl (by kernel_rfl) (by kernel_rfl) (by kernel_rfl) (fun _ _ _ h => h) (.inr ⟨by rfl, rfl⟩) hS0 ?_
                  (simp only [List.setIfInBounds_toArray, List.set_cons_zero, List.set_cons_succ])
                  refine anyH_take 17 158 undef rfl rfl (by kernel_rfl) (by kernel_rfl) (by kernel_rfl) (fun _ _ _ h => h) (.inr ⟨by rfl, rfl⟩) hS0 ?_
                  (simp only [List.setIfInBounds_toArray, List.set_cons_zero, List.set_cons_succ])
                  refine anyH_take 18 159 undef rfl rfl (by kernel_rfl) (by kernel_rfl) (by kernel_rfl) (fun _ _ _ h => h) (.inr ⟨by rfl, rfl⟩) hS0 ?_
                  (simp only [List.setIfInBounds_toArray, List.set_cons_zero, List.set_cons_succ])
                  refine anyH_take 19 160 undef rfl rfl (by kernel_rfl) (by kernel_rfl) (by kernel_rfl) (fun _ _ _ h => h) (.inr ⟨by rfl, rfl⟩) hS0 ?_
                  (simp only [List.setIfInBounds_toArray, List.set_cons_zero, List.set_cons_succ])
                  refine anyH_take 20 161 undef rfl rfl (by kernel_rfl) (by kernel_rfl) (by kernel_rfl) (fun _ _ _ h => h) (.inr ⟨by rfl, rfl⟩) hS0 ?_
                  (simp only [List.setIfInBounds_toArray, List.set_cons_zero, List.set_cons_succ])
                  refine anyH_take 21 162 undef rfl rfl (by kernel_rfl) (by kernel_rfl) (by kernel_rfl) (fun _ _ _ h => h) (.inr ⟨by rfl, rfl⟩) hS0 ?_
                  (simp only [List.setIfInBounds_toArray, List.set_cons_zero, List.set_cons_succ])
                  refine anyH_take 22 163 undef rfl rfl (by kernel_rfl) (by kernel_rfl) (by kernel_rfl) (fun _ _ _ h => h) (.inr ⟨by rfl, rfl⟩) hS0 ?_
                  (simp only [List.setIfInBounds_toArray, List.set_cons_zero, List.set_cons_succ])
                  refine anyH_take 23 164 (.bool true) rfl rfl (by kernel_rfl) (by kernel_rfl) (by kernel_rfl) (fun _ _ _ h => h) (.inl ⟨by rfl, fun w'' hS => by go_simp⟩) hS0 ?_
                  (simp only [List.setIfInBounds_toArray, List.set_cons_zero, List.set_cons_succ])
                  refine anyH_take 24 165 (.bool true) rfl rfl (by kernel_rfl) (by kernel_rfl) (by kernel_rfl) (fun _ _ _ h => h) (.inl ⟨by rfl, fun w'' hS => by go_simp⟩) hS0 ?_
                  (simp only [List.setIfInBounds_toArray, List.set_cons_zero, List.set_cons_succ])
                  refine anyH_take 25 166 undef rfl rfl (by kernel_rfl) (by kernel_rfl) (by kernel_rfl) (fun _ _ _ h => h) (.inr ⟨by rfl, rfl⟩) hS0 ?_
                  (simp only [List.setIfInBounds_toArray, List.set_cons_zero, List.set_cons_succ])
                  refine anyH_take 26 167 undef rfl rfl (by kernel_rfl) (by kernel_rfl) (by kernel_rfl) (fun _ _ _ h => h) (.inr ⟨by rfl, rfl⟩) hS0 ?_
                  (simp only [List.setIfInBounds_toArray, List.set_cons_zero, List.set_cons_succ])
                  refine anyH_take 27 168 undef rfl rfl (by kernel_rfl) (by kernel_rfl) (by kernel_rfl) (fun _ _ _ h => h) (.inr ⟨by rfl, rfl⟩) hS0 ?_
                  (simp only [List.setIfInBounds_toArray, List.set_cons_zero, List.set_cons_succ])
                  refine anyH_take 28 169 undef rfl rfl (by kernel_rfl) (by kernel_rfl) (by kernel_rfl) (fun _ _ _ h => h) (.inr ⟨by rfl, rfl⟩) hS0 ?_
                  (simp only [List.setIfInBounds_toArray, List.set_cons_zero, List.set_cons_succ])
                  refine anyH_take 29 170 (.bool true) rfl rfl (by kernel_rfl) (by kernel_rfl) (by kernel_rfl) (fun _ _ _ h => h) (.inl ⟨by rfl, fun w'' hS => by go_simp⟩) hS0 ?_
                  (simp only [List.setIfInBounds_toArray, List.set_cons_zero, List.set_cons_succ])
                  refine wpAnyH_done (by kernel_rfl) ?_ _
                  have HF2 := Lib.hid hS0
                  clear hS0
                  go_wp2_with fail
                  go_ret
                  exact ⟨rfl, HB.out.1.trans (HF1.out.trans HF2.out (fun _ _ q => q)) (fun _ _ q => q)⟩
              · obtain rfl : k2 = n2 := by omega
                have hkk : ¬ (k2 : Int) < (k2 : Int) := by omega
                have htx := HP.out
                rw [List.take_of_length_le (by rw [← HL.out.2.1]; exact Nat.le_refl _)] at htx
                obtain ⟨q, hq⟩ : ∃ q, q = (thenT t 0).isSome := ⟨_, rfl⟩
                obtain rfl : r = q := by
                  rw [HRR.out, hq]
                  unfold mayT
                  rw [← HHB.out, ← HCB.out, ← HZB.out, HCP.out, htx]
                  simp
                have HTC := Lib.hid (HTH.out wr (HB.out.1.trans HF.out (fun _ _ q => q)) (by rw [← HL.out.1]; omega) (by rw [← HL.out.2.2]; have := HSZ.out; omega))
                rw [← hq] at HTC
                have HBL := Lib.hid (HB.out.2.1.keep HF.out (fun q => q))
                clear hlt htx hq HP
                go_wp2_with (refine wpList_load_mid rfl 27 (.tmp 1) rfl w.heap.size 0 rfl (tkA t (.slice A1 k c1) (.slice A2 k2 c2) (.slice A3 n3 c3)).toList _ (blk_range HBL.out) Try.underlying27 rfl infoTk ?_)
                refine (HTC.out).mono ?_
                rintro e w9 ⟨u, rfl, _, f9⟩
                have HF9 := Lib.hid f9
                clear f9
                go_wp2_with fail
                go_ret
                exact ⟨rfl, HB.out.1.trans (HF.out.trans HF9.out (fun _ _ q => q)) (fun _ _ q => q)⟩
end Go.Proofs.Ytmopkfjnjbimnaa
