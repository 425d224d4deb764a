/- ticket's mayCoupons, mayTaxes. -/
import Derived.Test.YtmopkfjnjbimnaaKpb
import Derived.Test.YtmopkfjnjbimnaaKcl
namespace Go.Proofs.Ytmopkfjnjbimnaa
open Go.RowKit

theorem wpList_load_want {ops : Array Oper} {Q : Exit → Act → World → Prop} {o : Oper} {a : Act} {rest : List Oper} {w : World} (hw : Region.wanted o (yielded ops a.tmps) = true) (ty : TypeId) (x : Operand) (ho : o.op = .load ty x)
    (b f : Nat) (hx : a.eval x = .pointer (some ⟨b, f, none⟩)) (cs : List Value) (d : TypeDesc) (hc : w.rangeAt b f cs) (hu : Try.prog.underlying ty = some d) (hd : d.isRow = true) (hi : (Try.prog.info? ty).map (·.size) = some cs.length)
    (h : wpList Try.prog ops Q rest (a.put o.dst (.agg cs.toArray)) w) : wpList Try.prog ops Q (o :: rest) a w :=
  BigFrame.wpList_want hw fun _ hK => wp_load_mid ty x ho b f hx cs d hc hu hd hi (hK _ _ h)
def coupsB (t : TkD) : Bool := decide (1 ≤ t.cps.length) && decide (t.cps.length ≤ 4) && t.cps.all (cpB t.num)
set_option maxRecDepth 100000 in
set_option maxHeartbeats 8000000 in
theorem pcoups_any {w : World} {v : Value} {t : TkD} (hv : TkV w v t) (hok : TkOk t) : Calls Try.prog 43 #[v] w fun e w' => e = .returned (.bool (coupsB t)) ∧ Fr (fun _ => False) w w' := by
  obtain ⟨r, hr⟩ : ∃ r, r = coupsB t := ⟨_, rfl⟩
  rw [← hr]
  have HR := Lib.hid hr
  have HT := Lib.hid hok
  have HV := Lib.hid hv
  obtain ⟨sc, sx, se, rfl, a1, a2, a3⟩ := hv
  have HA := Lib.hid (And.intro a1 (And.intro a2 a3))
  obtain ⟨A1, n1, c1, e1, l1⟩ : ∃ A n c, sc = .slice A n c ∧ n = t.cps.length := by obtain ⟨A, c, e, _⟩ := a1.slice; exact ⟨A, _, c, e, rfl⟩
  obtain ⟨A2, n2, c2, e2, l2⟩ : ∃ A n c, sx = .slice A n c ∧ n = t.txs.length := by obtain ⟨A, c, e, _⟩ := a2.slice; exact ⟨A, _, c, e, rfl⟩
  obtain ⟨A3, n3, c3, e3, l3⟩ : ∃ A n c, se = .slice A n c ∧ n = t.his.length := by obtain ⟨A, c, e, _⟩ := a3.slice; exact ⟨A, _, c, e, rfl⟩
  subst e1 e2 e3
  have HL := Lib.hid (And.intro l1 (And.intro l2 l3))
  obtain ⟨W0, hW0⟩ : ∃ W, W = w.alloc (.cells (tkA t (.slice A1 n1 c1) (.slice A2 n2 c2) (.slice A3 n3 c3)) 27) := ⟨_, rfl⟩
  have HB : Hid (Fr (fun _ => False) w W0 ∧ Blk W0 w.heap.size 27 (tkA t (.slice A1 n1 c1) (.slice A2 n2 c2) (.slice A3 n3 c3)) ∧ W0.heap.size = w.heap.size + 1) := Lib.hid (by rw [hW0]; exact ⟨(Fr.refl _ w).alloc _, Blk.new w _ _, Array.size_push _⟩)
  have HQ := Lib.hid hW0
  have hx3 : W0.cell? ⟨w.heap.size, 3, none⟩ = some (.slice A1 n1 c1) := cp_cell HB.out.2.1 3 rfl
  clear a1 a2 a3 l1 l2 l3 hW0 hok hr
  by_cases g0 : 1 ≤ n1
  · have q0 : ¬ (n1 : Int) < 1 := by omega
    by_cases g1 : n1 ≤ 4
    · have q1 : ¬ (4 : Int) < (n1 : Int) := by omega
      have HKc : Hid (Fr (fun _ => False) W0 W0) := Lib.hid (Fr.refl _ _)
      go_enter Try.func43, Try.ntmps43
      go_upto_region 1 with fail
      rw [← HQ.out]
      clear HQ
      go_wp2_with fail
      clear hx3
      have m1 : n1 ≤ 4 := by omega
      have HG := Lib.hid (And.intro g0 g1)
      clear g0 g1
      go_loopw [18] (fun x wr => ∃ k : Nat, x = .int .i64 k ∧ k ≤ n1 ∧ Hid (∀ j c, j < k → t.cps[j]? = some c → cpB t.num c = true) ∧ Hid (Fr (fun _ => False) W0 wr)) (fun x _ => n1 - (intOf x).toNat)
      case atStart => exact ⟨0, rfl, Nat.zero_le _, Lib.hid (fun j c h => absurd h (by omega)), HKc⟩
      case round =>
        clear HKc
        obtain ⟨k, rfl, hk, HP, HF⟩ := hrel
        by_cases hlt : k < n1
        · obtain ⟨x1, hx⟩ : ∃ x, t.cps[k]? = some x := ⟨_, List.getElem?_eq_getElem (by rw [← HL.out.1]; exact hlt)⟩
          obtain ⟨b1, o1, cc1, e1, hc1⟩ := HA.out.1.cell hx
          injection e1 with e1 e1n e1c
          subst e1
          have hy1 : wr.rangeAt b1 (o1 + k * 6) (cpC x1) := fun j u hu => by have h5 := hc1 j u hu; exact ((HB.out.1.trans HF.out (fun _ _ q => q)).cell (World.block_lt_of_cell? w _ h5) (fun q => q)).trans h5
          have hk0 : (0 : Int) ≤ (k : Int) := by omega
          have hkm : (k : Int) < (n1 : Int) := by omega
          have HXY := Lib.hid (And.intro hx hlt)
          have HXO := Lib.hid (HT.out.cps x1 (List.mem_of_getElem? hx))
          have hfail : cpB t.num x1 = false → r = false := fun e => by
            rw [HR.out]
            unfold coupsB
            rw [List.all_eq_false.2 ⟨x1, List.mem_of_getElem? hx, by rw [e]; simp⟩]
            simp
          have HWB := Lib.hid (fun W => pwith_any x1 HXO.out t.num HT.out.num W)
          clear hx hc1 e1n e1c hlt
          go_upto_region 6 with (refine wpList_load_mid rfl 49 (.tmp 20) rfl b1 (o1 + k * 6) rfl (cpC x1) _ hy1 Try.underlying49 rfl (info_size infoCp) ?_)
          obtain ⟨xfl, xdy, xva, xst, xho, xnx⟩ := x1
          have HFA := Lib.hid hfail
          obtain ⟨W1, hW1⟩ : ∃ W, W = wr.alloc (.cells #[.int .i64 xfl, .int .i64 xdy, .int .i64 xva, .int .i64 xst, .int .i64 xho, .int .u64 (xnx : Nat)] 49) := ⟨_, rfl⟩
          have f1 : Fr (fun _ => False) wr W1 := by rw [hW1]; exact (Fr.refl _ wr).alloc _
          have hb1 : Blk W1 wr.heap.size 49 #[.int .i64 xfl, .int .i64 xdy, .int .i64 xva, .int .i64 xst, .int .i64 xho, .int .u64 (xnx : Nat)] := by rw [hW1]; exact Blk.new wr _ _
          have HF1 := Lib.hid (HF.out.trans f1 (fun _ _ q => q))
          have HBX := Lib.hid hb1
          rw [← hW1]
          have hz0 : W1.cell? ⟨w.heap.size, 0, none⟩ = some (.int .u64 (t.num : Nat)) := cp_cell (HB.out.2.1.keep HF1.out (fun q => q)) 0 rfl
          clear hfail hW1 f1 hb1 hy1 hk0 hkm
          have hz1 := cp_cell HBX.out 0 (v := .int .i64 xfl) rfl
          have hz2 := cp_cell HBX.out 1 (v := .int .i64 xdy) rfl
          have hz3 := cp_cell HBX.out 2 (v := .int .i64 xva) rfl
          have hz4 := cp_cell HBX.out 3 (v := .int .i64 xst) rfl
          generalize hge : wr.heap.size = ge at *
          clear hge
          have HDA := Lib.hid (fun W => pday_any xdy W)
          have HSO := Lib.hid (fun W => pout_any xva W)
          have HMS := Lib.hid (fun W => pmay_any xst W)
          by_cases g0 : 1 ≤ xfl
          · have g0i : ¬ xfl < 1 := by omega
            by_cases g1 : xfl ≤ 9999
            · have g1i : ¬ 9999 < xfl := by omega
              cases g2 : dayB xdy with
              | false =>
                rw [g2] at HDA
                go_wp2_with fail
                refine (HDA.out _).mono ?_
                rintro e w1 ⟨rfl, rfl⟩
                obtain rfl : r = false := HFA.out (by rw [cpB_w]; simp [g2])
                clear g0 g1 g2
                go_wp2_with fail
                go_ret
                exact ⟨rfl, HB.out.1.trans HF1.out (fun _ _ q => q)⟩
              | true =>
                rw [g2] at HDA
                go_wp2_with fail
                refine (HDA.out _).mono ?_
                rintro e w1 ⟨rfl, rfl⟩
                cases g3 : someB xva with
                | false =>
                  rw [g3] at HSO
                  go_wp2_with fail
                  refine (HSO.out _).mono ?_
                  rintro e w1 ⟨rfl, rfl⟩
                  obtain rfl : r = false := HFA.out (by rw [cpB_w]; simp [g3])
                  clear g0 g1 g2 g3
                  go_wp2_with fail
                  go_ret
                  exact ⟨rfl, HB.out.1.trans HF1.out (fun _ _ q => q)⟩
                | true =>
                  rw [g3] at HSO
                  go_wp2_with fail
                  refine (HSO.out _).mono ?_
                  rintro e w1 ⟨rfl, rfl⟩
                  cases g4 : mayS xst with
                  | false =>
                    rw [g4] at HMS
                    go_wp2_with fail
                    refine (HMS.out _).mono ?_
                    rintro e w1 ⟨rfl, rfl⟩
                    obtain rfl : r = false := HFA.out (by rw [cpB_w]; simp [g4])
                    clear g0 g1 g2 g3 g4
                    go_wp2_with fail
                    go_ret
                    exact ⟨rfl, HB.out.1.trans HF1.out (fun _ _ q => q)⟩
                  | true =>
                    rw [g4] at HMS
                    go_wp2_with fail
                    refine (HMS.out _).mono ?_
                    rintro e w1 ⟨rfl, rfl⟩
                    cases g5 : wB t.num ⟨xfl, xdy, xva, xst, xho, xnx⟩ with
                    | false =>
                      rw [g5] at HWB
                      go_wp2_with (refine wpList_load_want (by rfl) 49 (.tmp 4) rfl ge 0 rfl (cpC ⟨xfl, xdy, xva, xst, xho, xnx⟩) _ (blk_range HBX.out) Try.underlying49 rfl (info_size infoCp) ?_)
                      refine (HWB.out _).mono ?_
                      rintro e w1 ⟨rfl, f1⟩
                      have HG1 := Lib.hid (HF1.out.trans f1 (fun _ _ q => q))
                      clear f1
                      obtain rfl : r = false := HFA.out (by rw [cpB_w]; simp [g5])
                      clear g0 g1 g2 g3 g4 g5
                      go_wp2_with fail
                      go_ret
                      exact ⟨rfl, HB.out.1.trans HG1.out (fun _ _ q => q)⟩
                    | true =>
                      rw [g5] at HWB
                      go_wp2_with (refine wpList_load_want (by rfl) 49 (.tmp 4) rfl ge 0 rfl (cpC ⟨xfl, xdy, xva, xst, xho, xnx⟩) _ (blk_range HBX.out) Try.underlying49 rfl (info_size infoCp) ?_)
                      refine (HWB.out _).mono ?_
                      rintro e w1 ⟨rfl, f1⟩
                      have HG1 := Lib.hid (HF1.out.trans f1 (fun _ _ q => q))
                      clear f1
                      have HNX : Hid (cpB t.num ⟨xfl, xdy, xva, xst, xho, xnx⟩ = true) := Lib.hid (by rw [cpB_w]; simp [g0, g1, g2, g3, g4, g5])
                      clear g0 g1 g2 g3 g4 g5 HFA
                      go_wp2_with fail
                      refine ⟨⟨k + 1, by go_num, by have := HXY.out.2; omega, Lib.hid (fun i c hi hc => ?_), HG1⟩, ?_⟩
                      · rcases Nat.lt_or_ge i k with h | h
                        · exact HP.out i c h hc
                        · obtain rfl : i = k := by omega
                          rw [HXY.out.1] at hc
                          injection hc with hc
                          rw [← hc]
                          exact HNX.out
                      · simp [intOf]
                        have := HXY.out.2
                        omega
            · have g1i : 9999 < xfl := by omega
              obtain rfl : r = false := HFA.out (by rw [cpB_w]; simp [g1])
              clear g0 g1
              go_wp2_with fail
              go_ret
              exact ⟨rfl, HB.out.1.trans HF1.out (fun _ _ q => q)⟩
          · have g0i : xfl < 1 := by omega
            obtain rfl : r = false := HFA.out (by rw [cpB_w]; simp [g0])
            clear g0
            go_wp2_with fail
            go_ret
            exact ⟨rfl, HB.out.1.trans HF1.out (fun _ _ q => q)⟩
        · obtain rfl : k = n1 := by omega
          have hkk : ¬ (k : Int) < (k : Int) := by omega
          obtain rfl : r = true := by
            rw [HR.out]
            unfold coupsB
            rw [← HL.out.1, decide_eq_true HG.out.1, decide_eq_true HG.out.2, Bool.true_and, Bool.true_and, List.all_eq_true]
            intro c hc
            obtain ⟨j, hj⟩ := List.mem_iff_getElem?.1 hc
            exact HP.out j c (by rw [HL.out.1]; exact (List.getElem?_eq_some_iff.1 hj).1) hj
          clear hlt
          go_wp2_with fail
          go_ret
          exact ⟨rfl, HB.out.1.trans HF.out (fun _ _ q => q)⟩
    · have q1 : (4 : Int) < (n1 : Int) := by omega
      obtain rfl : r = false := by rw [HR.out]; unfold coupsB; rw [← HL.out.1]; simp; omega
      clear g0 g1
      go_enter Try.func43, Try.ntmps43
      go_upto_region 1 with fail
      rw [← HQ.out]
      clear HQ
      go_wp2_with fail
      go_ret
      exact ⟨rfl, HB.out.1⟩
  · have q0 : (n1 : Int) < 1 := by omega
    obtain rfl : r = false := by rw [HR.out]; unfold coupsB; rw [← HL.out.1]; simp; omega
    clear g0
    go_enter Try.func43, Try.ntmps43
    go_upto_region 1 with fail
    rw [← HQ.out]
    clear HQ
    go_wp2_with fail
    go_ret
    exact ⟨rfl, HB.out.1⟩
def taxesB (l : List TxD) : Bool := decide (l.length ≤ 4) && txsB 0 l
set_option maxRecDepth 100000 in
set_option maxHeartbeats 8000000 in
theorem ptaxes_any {w : World} {v : Value} {l : List TxD} (hv : RwV w 2 txC v l) : Calls Try.prog 44 #[v] w fun e w' => e = .returned (.bool (taxesB l)) ∧ Fr (fun _ => False) w w' := by
  obtain ⟨r, hr⟩ : ∃ r, r = taxesB l := ⟨_, rfl⟩
  rw [← hr]
  have HR := Lib.hid hr
  have HA := Lib.hid hv
  obtain ⟨A1, n1, c1, e1, l1⟩ : ∃ A n c, v = .slice A n c ∧ n = l.length := by obtain ⟨A, c, e, _⟩ := hv.slice; exact ⟨A, _, c, e, rfl⟩
  subst e1
  have HL := Lib.hid l1
  clear hr hv l1
  by_cases g0 : n1 ≤ 4
  · have q0 : ¬ (4 : Int) < (n1 : Int) := by omega
    have HG := Lib.hid g0
    have HKc : Hid (Fr (fun _ => False) w w) := Lib.hid (Fr.refl _ _)
    have HK0 : Hid (txsB 0 (l.take 0) = true) := Lib.hid rfl
    go_enter Try.func44, Try.ntmps44
    go_wp2_with fail
    go_loopw [3, 11] (fun s x wr => ∃ k : Nat, s = .int .i64 (txAt l k) ∧ x = .int .i64 k ∧ k ≤ n1 ∧ Hid (txsB 0 (l.take k) = true) ∧ Hid (Fr (fun _ => False) w wr)) (fun _ x _ => n1 - (intOf x).toNat)
    case atStart => exact ⟨0, rfl, rfl, Nat.zero_le _, HK0, HKc⟩
    case round =>
      clear HKc HK0
      obtain ⟨k, rfl, rfl, hk, HP, HF⟩ := hrel
      obtain ⟨z, hz⟩ : ∃ z, z = txAt l k := ⟨_, rfl⟩
      rw [← hz]
      by_cases hlt : k < n1
      · obtain ⟨x1, hx⟩ : ∃ x, l[k]? = some x := ⟨_, List.getElem?_eq_getElem (by rw [← HL.out]; exact hlt)⟩
        obtain ⟨b1, o1, cc1, e1, hc1⟩ := HA.out.cell hx
        injection e1 with e1 e1n e1c
        subst e1
        have hy1 : wr.rangeAt b1 (o1 + k * 2) (txC x1) := fun j u hu => by have h5 := hc1 j u hu; exact (HF.out.cell (World.block_lt_of_cell? w _ h5) (fun q => q)).trans h5
        have hk0 : (0 : Int) ≤ (k : Int) := by omega
        have hkm : (k : Int) < (n1 : Int) := by omega
        have HXY := Lib.hid (And.intro hx hlt)
        have hfail : txsB 0 (l.take (k + 1)) = false → r = false := fun e => by
          rw [HR.out]
          unfold taxesB
          rw [txsB_none l (k + 1) 0 e]
          simp
        have hz0 : 0 ≤ z := by
          rw [hz]
          unfold txAt
          by_cases e : k = 0
          · rw [if_pos e]
            exact Int.le_refl _
          · rw [if_neg e]
            obtain ⟨y, hy⟩ : ∃ y, l[k - 1]? = some y := ⟨_, List.getElem?_eq_getElem (by rw [← HL.out]; omega)⟩
            have := txsB_at (l.take k) (l.take k).length 0 (Nat.le_refl _) HP.out (k - 1) y (by rw [List.length_take, ← HL.out]; omega) (by rw [List.getElem?_take_of_lt (by omega)]; exact hy)
            rw [hy]
            simp
            omega
        have hstep := txsB_step l k x1 0 hx HP.out
        have hz2 : (if k = 0 then (0 : Int) else txAt l k) = z := by
          rw [hz]
          by_cases e : k = 0
          · rw [if_pos e]; unfold txAt; rw [if_pos e]
          · rw [if_neg e]
        rw [hz2] at hstep
        have hat : txAt l (k + 1) = x1.co := by
          unfold txAt
          rw [if_neg (by omega), Nat.add_sub_cancel, hx]
          rfl
        have HAT := Lib.hid hat
        clear hx hc1 e1n e1c hlt hz2 hz hat
        go_upto_region 7 with (refine wpList_load_mid rfl 62 (.tmp 13) rfl b1 (o1 + k * 2) rfl (txC x1) _ hy1 Try.underlying62 rfl (info_size infoTx) ?_)
        obtain ⟨xc, xa⟩ := x1
        have HFA := Lib.hid hfail
        have HST := Lib.hid hstep
        obtain ⟨W1, hW1⟩ : ∃ W, W = wr.alloc (.cells #[.int .i64 xc, .int .i64 xa] 62) := ⟨_, rfl⟩
        have f1 : Fr (fun _ => False) wr W1 := by rw [hW1]; exact (Fr.refl _ wr).alloc _
        have hb1 : Blk W1 wr.heap.size 62 #[.int .i64 xc, .int .i64 xa] := by rw [hW1]; exact Blk.new wr _ _
        have HF1 := Lib.hid (HF.out.trans f1 (fun _ _ q => q))
        have hz1 := cp_cell hb1 0 (v := .int .i64 xc) rfl
        have hz2 := cp_cell hb1 1 (v := .int .i64 xa) rfl
        rw [← hW1]
        clear hfail hstep hW1 f1 hb1 hy1 hk0 hkm
        generalize hge : wr.heap.size = ge at *
        clear hge
        have HSO := Lib.hid (fun W => pout_any xa W)
        by_cases g0 : z < xc
        · have g0i : ¬ xc ≤ z := by omega
          by_cases g1 : xc ≤ 99
          · have g1i : ¬ 99 < xc := by omega
            cases g2 : someB xa with
            | false =>
              rw [g2] at HSO
              go_wp2_with fail
              refine (HSO.out _).mono ?_
              rintro e w1 ⟨rfl, rfl⟩
              obtain rfl : r = false := HFA.out (by rw [HST.out]; simp [g2]; try omega)
              clear g0 g1 g2
              go_wp2_with fail
              go_ret
              exact ⟨rfl, HF1.out⟩
            | true =>
              rw [g2] at HSO
              go_wp2_with fail
              refine (HSO.out _).mono ?_
              rintro e w1 ⟨rfl, rfl⟩
              have HNX : Hid (txsB 0 (l.take (k + 1)) = true) := Lib.hid (by rw [HST.out]; simp [g0, g1, g2]; omega)
              clear g0 g1 g2 HFA HST
              go_wp2_with fail
              refine ⟨⟨k + 1, by rw [HAT.out], by go_num, by have := HXY.out.2; omega, HNX, HF1⟩, ?_⟩
              simp [intOf]
              have := HXY.out.2
              omega
          · have g1i : 99 < xc := by omega
            obtain rfl : r = false := HFA.out (by rw [HST.out]; simp [g1]; try omega)
            clear g0 g1
            go_wp2_with fail
            go_ret
            exact ⟨rfl, HF1.out⟩
        · have g0i : xc ≤ z := by omega
          obtain rfl : r = false := HFA.out (by rw [HST.out]; simp [g0]; try omega)
          clear g0
          go_wp2_with fail
          go_ret
          exact ⟨rfl, HF1.out⟩
      · obtain rfl : k = n1 := by omega
        have hkk : ¬ (k : Int) < (k : Int) := by omega
        obtain rfl : r = true := by
          have h5 := HP.out
          rw [List.take_of_length_le (by rw [← HL.out]; exact Nat.le_refl _)] at h5
          rw [HR.out]
          unfold taxesB
          rw [← HL.out, decide_eq_true HG.out, h5]
          rfl
        clear hlt hz
        go_wp2_with fail
        go_ret
        exact ⟨rfl, HF.out⟩
  · have q0 : (4 : Int) < (n1 : Int) := by omega
    obtain rfl : r = false := by rw [HR.out]; unfold taxesB; rw [← HL.out, decide_eq_false g0]; rfl
    clear g0
    go_enter Try.func44, Try.ntmps44
    go_wp2_with fail
    go_ret
    exact ⟨rfl, Fr.refl _ _⟩
end Go.Proofs.Ytmopkfjnjbimnaa
