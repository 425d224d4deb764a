/- The law TicketChanges. -/
import Derived.Test.YtmopkfjnjbimnaaKrc
import Derived.Test.YtmopkfjnjbimnaaKl2
namespace Go.Proofs.Ytmopkfjnjbimnaa
open Go.RowKit

theorem chg_much {t : TkD} {c d s : Int} {k : Nat} (h : chgE t c d s k = 0) (hm : muchT t = false) : muchT (chgT t c d s k) = false := by
  have hmay := chg_may h
  have hs := much_small hm
  have hloc : (chgT t c d s k).loc = t.loc := by
    unfold chgT
    rw [if_pos h]
  generalize chgT t c d s k = R at *
  have h4 : sizeB R = true := by
    unfold mayT at hmay
    simp only [Bool.and_eq_true] at hmay
    exact hmay.1.1.1.2
  unfold sizeB at h4
  rw [decide_eq_true_eq] at h4
  unfold muchT
  rw [hloc]
  simp only [Bool.or_eq_false_iff, decide_eq_false_iff_not]
  omega
theorem wpList_load_midG {P : Program} {ops : Array Oper} {rest : List Oper} {op : Oper} {a : Act} {w : World} {Q : Exit → Act → World → Prop} (hw : Region.wanted op (yielded ops a.tmps) = true) (ty : TypeId) (x : Operand) (ho : op.op = .load ty x)
    (b o : Nat) (hx : a.eval x = .pointer (some ⟨b, o, none⟩)) (cs : List Value) (d : TypeDesc) (hc : w.rangeAt b o cs)
    (hu : P.underlying ty = some d) (hd : d.isRow = true) (hi : (P.info? ty).map (·.size) = some cs.length)
    (h : wpList P ops Q rest (a.put op.dst (.agg cs.toArray)) w) : wpList P ops Q (op :: rest) a w :=
  wpList_step fun K hK => by rw [if_pos hw]; exact wp_load_mid ty x ho b o hx cs d hc hu hd hi (hK _ _ h)
section
variable {P : Program} {md : Region.Mode} {ops : Array Oper} {Q : Exit → Act → World → Prop} {S : World → Prop}
theorem anyH_alt13 (i j : Nat) {fuel : Nat} {listed : Array Bool} {T : Array Value} {ds : List Deferred} {w : World} (hr : Region.ready md ops listed = [i, j])
    (hi : wpOp P ops Q i (fun a' w' => S w' ∧ wpAnyH P md ops Q S fuel (listed.setIfInBounds i true) a' w') { tmps := T, defers := ds } w)
    (hj : wpOp P ops Q j (fun a' w' => S w' ∧ wpAnyH P md ops Q S fuel (listed.setIfInBounds j true) a' w') { tmps := T, defers := ds } w) : wpAnyH P md ops Q S (fuel + 1) listed { tmps := T, defers := ds } w := by
  refine wpAnyH_all hr (by simp) fun q hq => ?_
  simp only [List.mem_cons, List.not_mem_nil, or_false] at hq
  rcases hq with rfl | rfl
  · exact hi
  · exact hj
end
set_option maxRecDepth 100000 in
set_option maxHeartbeats 16000000 in
theorem tchanges {w : World} {v sv : Value} {t : TkD} {l : List StpD} (hv : TkV w v t) (hok : TkOk t) (hl : RwV w 4 stpC sv l) (hlo : ∀ x ∈ l, StpOk x) : Calls Try.prog 4 #[v, sv] w (Tru w) := by
  have HV := Lib.hid hv
  obtain ⟨q1, q2, q3, rfl, a1, a2, a3⟩ := hv
  obtain ⟨A1, n1, c1, e1⟩ : ∃ A n c, q1 = .slice A n c := by obtain ⟨A, c, e, _⟩ := a1.slice; exact ⟨A, _, c, e⟩
  obtain ⟨A2, n2, c2, e2⟩ : ∃ A n c, q2 = .slice A n c := by obtain ⟨A, c, e, _⟩ := a2.slice; exact ⟨A, _, c, e⟩
  obtain ⟨A3, n3, c3, e3⟩ : ∃ A n c, q3 = .slice A n c := by obtain ⟨A, c, e, _⟩ := a3.slice; exact ⟨A, _, c, e⟩
  subst e1 e2 e3
  have HT := Lib.hid hok
  have HLO := Lib.hid hlo
  obtain ⟨As, n, cs, es, en⟩ : ∃ A n c, sv = .slice A n c ∧ n = l.length := by obtain ⟨A, c, e, _⟩ := hl.slice; exact ⟨A, _, c, e, rfl⟩
  subst es
  have HL := Lib.hid hl
  have HN := Lib.hid en
  obtain ⟨W0, hW0⟩ : ∃ W, W = w.alloc (.cells (tkA t (.slice A1 n1 c1) (.slice A2 n2 c2) (.slice A3 n3 c3)) 27) := ⟨_, rfl⟩
  have HB : Hid (Fr (fun _ => False) w W0 ∧ Blk W0 w.heap.size 27 (tkA t (.slice A1 n1 c1) (.slice A2 n2 c2) (.slice A3 n3 c3))) := Lib.hid (by rw [hW0]; exact ⟨(Fr.refl _ w).alloc _, Blk.new w _ _⟩)
  have HQ := Lib.hid hW0
  have HMU := Lib.hid (fun W f => rmuch_any (w := W) (HV.out.keep0 f))
  have HKN := Lib.hid (fun W => known_any W)
  clear a1 a2 a3 hW0 hok hl hlo en
  go_enter Try.func4, Try.ntmps4
  go_upto_region 1 with fail
  rw [← HQ.out]
  clear HQ
  have HBL := Lib.hid HB.out.2
  have HFB := Lib.hid HB.out.1
  clear HB
  cases e0 : muchT t with
  | true =>
    rw [e0] at HMU
    go_wp2_with (refine wpList_load_mid rfl 27 (.tmp 2) rfl w.heap.size 0 rfl (tkA t (.slice A1 n1 c1) (.slice A2 n2 c2) (.slice A3 n3 c3)).toList _ (blk_range (HBL.out)) Try.underlying27 rfl infoTk ?_)
    refine (HMU.out _ HFB.out).mono ?_
    rintro e w1 ⟨rfl, f1⟩
    have HF1 := Lib.hid (HFB.out.trans f1 (fun _ _ q => q))
    clear f1
    go_wp2_with fail
    refine (HKN.out _).mono ?_
    rintro e w2 ⟨rfl, f2⟩
    have HF2 := Lib.hid (HF1.out.trans f2 (fun _ _ q => q))
    clear f2
    go_wp2_with fail
    go_ret
    exact ⟨rfl, HF2.out⟩
  | false =>
    rw [e0] at HMU
    by_cases h70 : 70 < n
    · have h71 : (70 : Int) < (n : Int) := by omega
      clear h70
      go_wp2_with (refine wpList_load_mid rfl 27 (.tmp 2) rfl w.heap.size 0 rfl (tkA t (.slice A1 n1 c1) (.slice A2 n2 c2) (.slice A3 n3 c3)).toList _ (blk_range (HBL.out)) Try.underlying27 rfl infoTk ?_)
      refine (HMU.out _ HFB.out).mono ?_
      rintro e w1 ⟨rfl, f1⟩
      have HF1 := Lib.hid (HFB.out.trans f1 (fun _ _ q => q))
      clear f1
      go_wp2_with fail
      refine (HKN.out _).mono ?_
      rintro e w2 ⟨rfl, f2⟩
      have HF2 := Lib.hid (HF1.out.trans f2 (fun _ _ q => q))
      clear f2
      go_wp2_with fail
      go_ret
      exact ⟨rfl, HF2.out⟩
    · have h71 : ¬ (70 : Int) < (n : Int) := by omega
      have HE0 := Lib.hid e0
      have H70 := Lib.hid h70
      clear h70 e0
      go_wp2_with (refine wpList_load_mid rfl 27 (.tmp 2) rfl w.heap.size 0 rfl (tkA t (.slice A1 n1 c1) (.slice A2 n2 c2) (.slice A3 n3 c3)).toList _ (blk_range (HBL.out)) Try.underlying27 rfl infoTk ?_)
      refine (HMU.out _ HFB.out).mono ?_
      rintro e w1 ⟨rfl, f1⟩
      have HI : Hid (Fr (fun _ => False) w w1 ∧ Blk w1 w.heap.size 27 (tkA t (.slice A1 n1 c1) (.slice A2 n2 c2) (.slice A3 n3 c3))) := Lib.hid ⟨HFB.out.trans f1 (fun _ _ q => q), HBL.out.keep f1 (fun q => q)⟩
      have HJ : Hid (TkV w1 (.agg (tkA t (.slice A1 n1 c1) (.slice A2 n2 c2) (.slice A3 n3 c3))) t ∧ TkOk t ∧ muchT t = false) := Lib.hid ⟨HV.out.keep0 HI.out.1, HT.out, HE0.out⟩
      clear f1 HMU HBL HFB HV HT HE0
      go_wp2_with fail
      clear h71
      go_loopw [5] (fun x wr => ∃ (k : Nat) (tt : TkD) (A1 A2 A3 : Option Addr) (n1 c1 n2 c2 n3 c3 : Nat), x = .int .i64 k ∧ k ≤ n ∧ Hid (Fr (fun _ => False) w wr ∧ Blk wr w.heap.size 27 (tkA tt (.slice A1 n1 c1) (.slice A2 n2 c2) (.slice A3 n3 c3))) ∧ Hid (TkV wr (.agg (tkA tt (.slice A1 n1 c1) (.slice A2 n2 c2) (.slice A3 n3 c3))) tt ∧ TkOk tt ∧ muchT tt = false)) (fun x _ => n - (intOf x).toNat)
      case atStart => exact ⟨0, t, A1, A2, A3, n1, c1, n2, c2, n3, c3, rfl, Nat.zero_le _, HI, HJ⟩
      case round =>
        clear HI HJ
        obtain ⟨k, tt, A1, A2, A3, n1, c1, n2, c2, n3, c3, rfl, hk, HI, HJ⟩ := hrel
        have hn70 : n ≤ 70 := by have := H70.out; omega
        by_cases hlt : k < n
        · obtain ⟨x, hx⟩ : ∃ x, l[k]? = some x := ⟨_, List.getElem?_eq_getElem (by rw [← HN.out]; exact hlt)⟩
          have hxo := HLO.out x (List.mem_of_getElem? hx)
          obtain ⟨bs, os, c9, e9, hcell⟩ := HL.out.cell hx
          injection e9 with e9 e9n e9c
          subst e9
          clear e9n e9c
          have HC : Hid (∀ W, Fr (fun _ => False) wr W → W.cell? ⟨bs, os + k * 4, none⟩ = some (.int .i64 x.cp) ∧ W.cell? ⟨bs, os + k * 4 + 1, none⟩ = some (.int .i64 x.dy) ∧ W.cell? ⟨bs, os + k * 4 + 2, none⟩ = some (.int .i64 x.tw) ∧ W.cell? ⟨bs, os + k * 4 + 3, none⟩ = some (.int .u64 (x.wi : Nat))) := Lib.hid (fun W f => by
            have f0 := HI.out.1.trans f (fun _ _ q => q)
            have hh : ∀ j u, (stpC x)[j]? = some u → W.cell? ⟨bs, os + k * 4 + j, none⟩ = some u := fun j u hu => by
              have h1 := hcell j u hu
              exact (f0.cell (World.block_lt_of_cell? w _ h1) (fun q => q)).trans h1
            exact ⟨hh 0 _ rfl, hh 1 _ rfl, hh 2 _ rfl, hh 3 _ rfl⟩)
          have HK : Hid ((0 : Int) ≤ (k : Int) ∧ (k : Int) < (n : Int) ∧ k < n) := Lib.hid ⟨by omega, by omega, hlt⟩
          have HSM := Lib.hid (much_small HJ.out.2.2)
          have HCP := Lib.hid (fun W f => rcopy_any (w := W) (HJ.out.1.keep0 f) (by have := HSM.out; omega) (by have := HSM.out; omega) (by have := HSM.out; omega))
          have HPC := Lib.hid (fun W f => pchange_any (w := W) (HJ.out.1.keep0 f) HJ.out.2.1 HJ.out.2.2 x.cp x.dy x.tw hxo.tw x.wi hxo.wi)
          have HRC := Lib.hid (fun W f => rchange_any (w := W) (HJ.out.1.keep0 f) HJ.out.2.1 HJ.out.2.2 x.cp x.dy x.tw hxo.tw x.wi hxo.wi)
          have HMAY := Lib.hid (fun (h : chgE tt x.cp x.dy x.tw x.wi = 0) => And.intro (chg_may h) (And.intro (chg_much h HJ.out.2.2) (chg_ok HJ.out.2.1 hxo.cp hxo.dy hxo.tw hxo.wi)))
          obtain ⟨R, hR⟩ : ∃ R, R = chgT tt x.cp x.dy x.tw x.wi := ⟨_, rfl⟩
          obtain ⟨E, hE⟩ : ∃ E, E = chgE tt x.cp x.dy x.tw x.wi := ⟨_, rfl⟩
          rw [← hR, ← hE] at HPC HRC HMAY
          have hk0 : (0 : Int) ≤ (k : Int) := by omega
          have hkm : (k : Int) < (n : Int) := by omega
          have HBR := Lib.hid HI.out.2
          clear hR hE hx hxo hcell hlt
          go_wp2_with (refine wpList_load_mid rfl 27 (.tmp 2) rfl w.heap.size 0 rfl (tkA tt (.slice A1 n1 c1) (.slice A2 n2 c2) (.slice A3 n3 c3)).toList _ (blk_range (HBR.out)) Try.underlying27 rfl infoTk ?_)
          refine (HCP.out _ (Fr.refl _ _)).mono ?_
          rintro e w2 ⟨v2, rfl, ⟨s4, s5, s6, rfl, o4, o5, o6⟩, f2⟩
          obtain ⟨A4, n4, c4, ev4⟩ : ∃ A n c, s4 = .slice A n c := by obtain ⟨A, c, e, _⟩ := own_slice o4; exact ⟨A, _, c, e⟩
          obtain ⟨A5, n5, c5, ev5⟩ : ∃ A n c, s5 = .slice A n c := by obtain ⟨A, c, e, _⟩ := own_slice o5; exact ⟨A, _, c, e⟩
          obtain ⟨A6, n6, c6, ev6⟩ : ∃ A n c, s6 = .slice A n c := by obtain ⟨A, c, e, _⟩ := own_slice o6; exact ⟨A, _, c, e⟩
          subst ev4 ev5 ev6
          have HOW : Hid (TkV w2 (.agg (tkA tt (.slice A4 n4 c4) (.slice A5 n5 c5) (.slice A6 n6 c6))) tt) := Lib.hid ⟨_, _, _, rfl, o4.rd cpC_len, o5.rd txC_len, o6.rd evC_len⟩
          have HF2 := Lib.hid f2
          clear f2 o4 o5 o6 HCP HBR hk0 hkm
          go_upto_region 7 with fail
          obtain ⟨W3, hW3⟩ : ∃ W, W = w2.alloc (.cells (tkA tt (.slice A4 n4 c4) (.slice A5 n5 c5) (.slice A6 n6 c6)) 27) := ⟨_, rfl⟩
          obtain ⟨g6, hg6⟩ : ∃ g, g = w2.heap.size := ⟨_, rfl⟩
          have HB6 : Hid (Fr (fun _ => False) w2 W3 ∧ Blk W3 g6 27 (tkA tt (.slice A4 n4 c4) (.slice A5 n5 c5) (.slice A6 n6 c6))) := Lib.hid (by rw [hW3, hg6]; exact ⟨(Fr.refl _ w2).alloc _, Blk.new w2 _ _⟩)
          have HF3 := Lib.hid (HF2.out.trans HB6.out.1 (fun _ _ q => q))
          rw [← hW3, ← hg6]
          clear hW3 hg6
          go_cut [7, 8] from 19 to 102 (fun s7 s8 wx => ∃ (g : Nat) (A7 A8 A9 : Option Addr) (n7 c7 n8 c8 n9 c9 : Nat), s7 = .pointer (some ⟨g, 0, none⟩) ∧ s8 = .int .i64 (E : Nat) ∧ Hid (Fr (fun _ => False) W3 wx ∧ Blk wx g 27 (tkA R (.slice A7 n7 c7) (.slice A8 n8 c8) (.slice A9 n9 c9)) ∧ RwO wx w.heap.size 49 6 cpC (.slice A7 n7 c7) R.cps ∧ RwO wx w.heap.size 62 2 txC (.slice A8 n8 c8) R.txs ∧ RwO wx w.heap.size 51 4 evC (.slice A9 n9 c9) R.his))
          case first =>
            refine wp_region_held_drew (S := fun w' => Fr (fun _ => False) W3 w') (by kernel_rfl) ((Fr.refl _ W3).drew) (fun hS0 => ?_)
            refine anyH_take 0 28 (.agg (tkA tt (.slice A1 n1 c1) (.slice A2 n2 c2) (.slice A3 n3 c3))) rfl rfl (by kernel_rfl) (by kernel_rfl) (by kernel_rfl) (fun _ _ _ h => h) (yieldsIf_load_mid rfl 27 (.tmp 2) rfl w.heap.size 0 rfl (tkA tt (.slice A1 n1 c1) (.slice A2 n2 c2) (.slice A3 n3 c3)).toList _ (fun w'' hS => blk_range (HI.out.2.keep (HF3.out.trans hS (fun _ _ q => q)) (fun q => q))) Try.underlying27 rfl infoTk) hS0 ?_
            (simp only [List.setIfInBounds_toArray, List.set_cons_zero, List.set_cons_succ])
            refine anyH_take 1 29 (.slice (some ⟨bs, os, none⟩) n cs) rfl rfl (by kernel_rfl) (by kernel_rfl) (by kernel_rfl) (fun _ _ _ h => h) (.inl ⟨by rfl, fun w'' hS => by go_simp⟩) hS0 ?_
            (simp only [List.setIfInBounds_toArray, List.set_cons_zero, List.set_cons_succ])
            refine anyH_take 2 30 (.int .i64 (k : Nat)) rfl rfl (by kernel_rfl) (by kernel_rfl) (by kernel_rfl) (fun _ _ _ h => h) (.inl ⟨by rfl, fun w'' hS => by go_simp⟩) hS0 ?_
            (simp only [List.setIfInBounds_toArray, List.set_cons_zero, List.set_cons_succ])
            refine anyH_take 3 31 (.pointer (some ⟨bs, os + k * 4, none⟩)) rfl rfl (by kernel_rfl) (by kernel_rfl) (by kernel_rfl) (fun _ _ _ h => h) (.inl ⟨by rfl, fun w'' hS => by have q0 := HK.out.1; have q1 := HK.out.2.1; go_simp⟩) hS0 ?_
            (simp only [List.setIfInBounds_toArray, List.set_cons_zero, List.set_cons_succ])
            refine anyH_take 4 32 (.pointer (some ⟨bs, os + k * 4, none⟩)) rfl rfl (by kernel_rfl) (by kernel_rfl) (by kernel_rfl) (fun _ _ _ h => h) (.inl ⟨by rfl, fun w'' hS => by go_simp⟩) hS0 ?_
            (simp only [List.setIfInBounds_toArray, List.set_cons_zero, List.set_cons_succ])
            refine anyH_take 5 33 (.int .i64 x.cp) rfl rfl (by kernel_rfl) (by kernel_rfl) (by kernel_rfl) (fun _ _ _ h => h) (.inl ⟨by rfl, fun w'' hS => by have q0 := (HC.out _ (HF3.out.trans hS (fun _ _ q => q))).1; go_simp⟩) hS0 ?_
            (simp only [List.setIfInBounds_toArray, List.set_cons_zero, List.set_cons_succ])
            refine anyH_take 6 34 (.slice (some ⟨bs, os, none⟩) n cs) rfl rfl (by kernel_rfl) (by kernel_rfl) (by kernel_rfl) (fun _ _ _ h => h) (.inl ⟨by rfl, fun w'' hS => by go_simp⟩) hS0 ?_
            (simp only [List.setIfInBounds_toArray, List.set_cons_zero, List.set_cons_succ])
            refine anyH_take 7 35 (.int .i64 (k : Nat)) rfl rfl (by kernel_rfl) (by kernel_rfl) (by kernel_rfl) (fun _ _ _ h => h) (.inl ⟨by rfl, fun w'' hS => by go_simp⟩) hS0 ?_
            (simp only [List.setIfInBounds_toArray, List.set_cons_zero, List.set_cons_succ])
            refine anyH_take 8 36 (.pointer (some ⟨bs, os + k * 4, none⟩)) rfl rfl (by kernel_rfl) (by kernel_rfl) (by kernel_rfl) (fun _ _ _ h => h) (.inl ⟨by rfl, fun w'' hS => by have q0 := HK.out.1; have q1 := HK.out.2.1; go_simp⟩) hS0 ?_
            (simp only [List.setIfInBounds_toArray, List.set_cons_zero, List.set_cons_succ])
            refine anyH_take 9 37 (.pointer (some ⟨bs, os + k * 4 + 1, none⟩)) rfl rfl (by kernel_rfl) (by kernel_rfl) (by kernel_rfl) (fun _ _ _ h => h) (.inl ⟨by rfl, fun w'' hS => by go_simp⟩) hS0 ?_
            (simp only [List.setIfInBounds_toArray, List.set_cons_zero, List.set_cons_succ])
            refine anyH_take 10 38 (.int .i64 x.dy) rfl rfl (by kernel_rfl) (by kernel_rfl) (by kernel_rfl) (fun _ _ _ h => h) (.inl ⟨by rfl, fun w'' hS => by have q0 := (HC.out _ (HF3.out.trans hS (fun _ _ q => q))).2.1; go_simp⟩) hS0 ?_
            (simp only [List.setIfInBounds_toArray, List.set_cons_zero, List.set_cons_succ])
            refine anyH_take 11 39 (.slice (some ⟨bs, os, none⟩) n cs) rfl rfl (by kernel_rfl) (by kernel_rfl) (by kernel_rfl) (fun _ _ _ h => h) (.inl ⟨by rfl, fun w'' hS => by go_simp⟩) hS0 ?_
            (simp only [List.setIfInBounds_toArray, List.set_cons_zero, List.set_cons_succ])
            refine anyH_take 12 40 (.int .i64 (k : Nat)) rfl rfl (by kernel_rfl) (by kernel_rfl) (by kernel_rfl) (fun _ _ _ h => h) (.inl ⟨by rfl, fun w'' hS => by go_simp⟩) hS0 ?_
            (simp only [List.setIfInBounds_toArray, List.set_cons_zero, List.set_cons_succ])
            refine anyH_take 13 41 (.pointer (some ⟨bs, os + k * 4, none⟩)) rfl rfl (by kernel_rfl) (by kernel_rfl) (by kernel_rfl) (fun _ _ _ h => h) (.inl ⟨by rfl, fun w'' hS => by have q0 := HK.out.1; have q1 := HK.out.2.1; go_simp⟩) hS0 ?_
            (simp only [List.setIfInBounds_toArray, List.set_cons_zero, List.set_cons_succ])
            refine anyH_take 14 42 (.pointer (some ⟨bs, os + k * 4 + 2, none⟩)) rfl rfl (by kernel_rfl) (by kernel_rfl) (by kernel_rfl) (fun _ _ _ h => h) (.inl ⟨by rfl, fun w'' hS => by go_simp⟩) hS0 ?_
            (simp only [List.setIfInBounds_toArray, List.set_cons_zero, List.set_cons_succ])
            refine anyH_take 15 43 (.int .i64 x.tw) rfl rfl (by kernel_rfl) (by kernel_rfl) (by kernel_rfl) (fun _ _ _ h => h) (.inl ⟨by rfl, fun w'' hS => by have q0 := (HC.out _ (HF3.out.trans hS (fun _ _ q => q))).2.2.1; go_simp⟩) hS0 ?_
            (simp only [List.setIfInBounds_toArray, List.set_cons_zero, List.set_cons_succ])
            refine anyH_take 16 44 (.slice (some ⟨bs, os, none⟩) n cs) rfl rfl (by kernel_rfl) (by kernel_rfl) (by kernel_rfl) (fun _ _ _ h => h) (.inl ⟨by rfl, fun w'' hS => by go_simp⟩) hS0 ?_
            (simp only [List.setIfInBounds_toArray, List.set_cons_zero, List.set_cons_succ])
            refine anyH_take 17 45 (.int .i64 (k : Nat)) rfl rfl (by kernel_rfl) (by kernel_rfl) (by kernel_rfl) (fun _ _ _ h => h) (.inl ⟨by rfl, fun w'' hS => by go_simp⟩) hS0 ?_
            (simp only [List.setIfInBounds_toArray, List.set_cons_zero, List.set_cons_succ])
            refine anyH_take 18 46 (.pointer (some ⟨bs, os + k * 4, none⟩)) rfl rfl (by kernel_rfl) (by kernel_rfl) (by kernel_rfl) (fun _ _ _ h => h) (.inl ⟨by rfl, fun w'' hS => by have q0 := HK.out.1; have q1 := HK.out.2.1; go_simp⟩) hS0 ?_
            (simp only [List.setIfInBounds_toArray, List.set_cons_zero, List.set_cons_succ])
            refine anyH_take 19 47 (.pointer (some ⟨bs, os + k * 4 + 3, none⟩)) rfl rfl (by kernel_rfl) (by kernel_rfl) (by kernel_rfl) (fun _ _ _ h => h) (.inl ⟨by rfl, fun w'' hS => by go_simp⟩) hS0 ?_
            (simp only [List.setIfInBounds_toArray, List.set_cons_zero, List.set_cons_succ])
            refine anyH_take 20 48 (.int .u64 (x.wi : Nat)) rfl rfl (by kernel_rfl) (by kernel_rfl) (by kernel_rfl) (fun _ _ _ h => h) (.inl ⟨by rfl, fun w'' hS => by have q0 := (HC.out _ (HF3.out.trans hS (fun _ _ q => q))).2.2.2; go_simp⟩) hS0 ?_
            (simp only [List.setIfInBounds_toArray, List.set_cons_zero, List.set_cons_succ])
            refine anyH_alt13 21 25 (by kernel_rfl) ?_ ?_
            · refine wpOp_call 49 rfl rfl (by rfl) (by go_simp) ((HPC.out _ (HF3.out.trans hS0 (fun _ _ q => q))).mono ?_)
              rintro e w4 ⟨v4, rfl, ⟨s7, s8, s9, rfl, o7, o8, o9⟩, f4⟩
              obtain ⟨A7, n7, c7, ev7⟩ : ∃ A n c, s7 = .slice A n c := by obtain ⟨A, c, e, _⟩ := own_slice o7; exact ⟨A, _, c, e⟩
              obtain ⟨A8, n8, c8, ev8⟩ : ∃ A n c, s8 = .slice A n c := by obtain ⟨A, c, e, _⟩ := own_slice o8; exact ⟨A, _, c, e⟩
              obtain ⟨A9, n9, c9, ev9⟩ : ∃ A n c, s9 = .slice A n c := by obtain ⟨A, c, e, _⟩ := own_slice o9; exact ⟨A, _, c, e⟩
              subst ev7 ev8 ev9
              have hS4 : Fr (fun _ => False) W3 w4 := hS0.trans f4 (fun _ _ q => q)
              refine ⟨_, rfl, hS4, ?_⟩
              (simp only [List.setIfInBounds_toArray, List.set_cons_zero, List.set_cons_succ])
              refine anyH_take 22 27 (.tuple #[.agg (tkA R (.slice A7 n7 c7) (.slice A8 n8 c8) (.slice A9 n9 c9)), .int .i64 (E : Nat)]) rfl rfl (by kernel_rfl) (by kernel_rfl) (by kernel_rfl) (fun _ _ _ h => h) (.inl ⟨by rfl, fun w'' hS => by go_simp⟩) hS4 ?_
              (simp only [List.setIfInBounds_toArray, List.set_cons_zero, List.set_cons_succ])
              refine anyH_take 23 50 (.agg (tkA R (.slice A7 n7 c7) (.slice A8 n8 c8) (.slice A9 n9 c9))) rfl rfl (by kernel_rfl) (by kernel_rfl) (by kernel_rfl) (fun _ _ _ h => h) (.inl ⟨by rfl, fun w'' hS => by go_simp⟩) hS4 ?_
              (simp only [List.setIfInBounds_toArray, List.set_cons_zero, List.set_cons_succ])
              refine anyH_take 24 51 (.int .i64 (E : Nat)) rfl rfl (by kernel_rfl) (by kernel_rfl) (by kernel_rfl) (fun _ _ _ h => h) (.inl ⟨by rfl, fun w'' hS => by go_simp⟩) hS4 ?_
              (simp only [List.setIfInBounds_toArray, List.set_cons_zero, List.set_cons_succ])
              have hbz := Blk.new w4 27 zTk
              have hf5 : Fr (fun _ => False) W3 (w4.alloc (.cells zTk 27)) := hS4.alloc _
              have hf6 : Fr (fun _ => False) w4 (w4.alloc (.cells zTk 27)) := (Fr.refl _ w4).alloc _
              have hx5 := fr_cells (F := fun _ => False) (a := W3) (b := w4.heap.size) (.inr hS4.size) (tkA R (.slice A7 n7 c7) (.slice A8 n8 c8) (.slice A9 n9 c9)).toList 0 (w4.alloc (.cells zTk 27)) hf5
              have hx6 := fr_cells (F := fun _ => False) (a := w4) (b := w4.heap.size) (.inr (Nat.le_refl _)) (tkA R (.slice A7 n7 c7) (.slice A8 n8 c8) (.slice A9 n9 c9)).toList 0 (w4.alloc (.cells zTk 27)) hf6
              obtain ⟨W5, hWn⟩ : ∃ W, W = (w4.alloc (.cells zTk 27)).setCells w4.heap.size 0 (tkA R (.slice A7 n7 c7) (.slice A8 n8 c8) (.slice A9 n9 c9)).toList := ⟨_, rfl⟩
              have HZ : Hid (Fr (fun _ => False) W3 W5 ∧ Blk W5 w4.heap.size 27 (tkA R (.slice A7 n7 c7) (.slice A8 n8 c8) (.slice A9 n9 c9)) ∧ RwO W5 w.heap.size 49 6 cpC (.slice A7 n7 c7) R.cps ∧ RwO W5 w.heap.size 62 2 txC (.slice A8 n8 c8) R.txs ∧ RwO W5 w.heap.size 51 4 evC (.slice A9 n9 c9) R.his) := Lib.hid (by
                have hz : w.heap.size ≤ W3.drew.heap.size := ((HI.out.1.trans (HF3.out.trans hS0 (fun _ _ q => q)) (fun _ _ q => q))).size
                rw [hWn]
                exact ⟨hx5, blk_row hbz rfl, (o7.keep0 hx6).base hz, (o8.keep0 hx6).base hz, (o9.keep0 hx6).base hz⟩)
              refine anyH_value 25 7 (.pointer (some ⟨w4.heap.size, 0, none⟩)) (w4.alloc (.cells zTk 27)) (by kernel_rfl) rfl rfl (by rfl) (by go_simp) hf5 ?_
              (simp only [List.setIfInBounds_toArray, List.set_cons_zero, List.set_cons_succ])
              clear hf5 hf6
              refine anyH_skip 26 W5 (by kernel_rfl) rfl rfl (by rfl) (by rw [hWn]; exact run_store_mid 27 (.tmp 7) (.tmp 50) rfl w4.heap.size 0 (tkA R (.slice A7 n7 c7) (.slice A8 n8 c8) (.slice A9 n9 c9)) rfl rfl (blk_there hbz (Nat.le_refl 11)) (infoTk' R _ _ _) (tkA_one R _ _ _ _ _ _ _ _ _)) HZ.out.1 ?_
              refine anyH_take 27 8 (.int .i64 (E : Nat)) rfl rfl (by kernel_rfl) (by kernel_rfl) (by kernel_rfl) (fun _ _ _ h => h) (.inl ⟨by rfl, fun w'' hS => by go_simp⟩) HZ.out.1 ?_
              (simp only [List.setIfInBounds_toArray, List.set_cons_zero, List.set_cons_succ])
              refine wpAnyH_done (by kernel_rfl) ?_ _
              clear hbz hx5 hx6 hWn hS4 hS0 f4 o7 o8 o9
              go_wp2_with fail
              go_meet
              exact ⟨w4.heap.size, A7, A8, A9, n7, c7, n8, c8, n9, c9, rfl, rfl, HZ⟩
            · have hfa : Fr (fun _ => False) W3 (W3.drew.alloc (.cells zTk 27)) := hS0.alloc _
              refine wpOp_value (w' := W3.drew.alloc (.cells zTk 27)) 7 (.pointer (some ⟨W3.drew.heap.size, 0, none⟩)) rfl rfl (by rfl) (by go_simp) ⟨hfa, ?_⟩
              (simp only [List.setIfInBounds_toArray, List.set_cons_zero, List.set_cons_succ])
              refine anyH_enter 21 49 (by kernel_rfl) rfl rfl (by rfl) (by go_simp) ((HPC.out _ (HF3.out.trans hfa (fun _ _ q => q))).mono ?_)
              rintro e w4 ⟨v4, rfl, ⟨s7, s8, s9, rfl, o7, o8, o9⟩, f4⟩
              obtain ⟨A7, n7, c7, ev7⟩ : ∃ A n c, s7 = .slice A n c := by obtain ⟨A, c, e, _⟩ := own_slice o7; exact ⟨A, _, c, e⟩
              obtain ⟨A8, n8, c8, ev8⟩ : ∃ A n c, s8 = .slice A n c := by obtain ⟨A, c, e, _⟩ := own_slice o8; exact ⟨A, _, c, e⟩
              obtain ⟨A9, n9, c9, ev9⟩ : ∃ A n c, s9 = .slice A n c := by obtain ⟨A, c, e, _⟩ := own_slice o9; exact ⟨A, _, c, e⟩
              subst ev7 ev8 ev9
              have hS4 : Fr (fun _ => False) W3 w4 := hfa.trans f4 (fun _ _ q => q)
              refine ⟨_, rfl, hS4, ?_⟩
              (simp only [List.setIfInBounds_toArray, List.set_cons_zero, List.set_cons_succ])
              refine anyH_take 22 27 (.tuple #[.agg (tkA R (.slice A7 n7 c7) (.slice A8 n8 c8) (.slice A9 n9 c9)), .int .i64 (E : Nat)]) rfl rfl (by kernel_rfl) (by kernel_rfl) (by kernel_rfl) (fun _ _ _ h => h) (.inl ⟨by rfl, fun w'' hS => by go_simp⟩) hS4 ?_
              (simp only [List.setIfInBounds_toArray, List.set_cons_zero, List.set_cons_succ])
              refine anyH_take 23 50 (.agg (tkA R (.slice A7 n7 c7) (.slice A8 n8 c8) (.slice A9 n9 c9))) rfl rfl (by kernel_rfl) (by kernel_rfl) (by kernel_rfl) (fun _ _ _ h => h) (.inl ⟨by rfl, fun w'' hS => by go_simp⟩) hS4 ?_
              (simp only [List.setIfInBounds_toArray, List.set_cons_zero, List.set_cons_succ])
              refine anyH_take 24 51 (.int .i64 (E : Nat)) rfl rfl (by kernel_rfl) (by kernel_rfl) (by kernel_rfl) (fun _ _ _ h => h) (.inl ⟨by rfl, fun w'' hS => by go_simp⟩) hS4 ?_
              (simp only [List.setIfInBounds_toArray, List.set_cons_zero, List.set_cons_succ])
              have hbz := (Blk.new W3.drew 27 zTk).keep f4 (fun q => q)
              have hx5 := fr_cells (F := fun _ => False) (a := W3) (b := W3.drew.heap.size) (.inr hS0.size) (tkA R (.slice A7 n7 c7) (.slice A8 n8 c8) (.slice A9 n9 c9)).toList 0 w4 hS4
              have hx6 := fr_cells (F := fun b => b = W3.drew.heap.size) (a := w4) (b := W3.drew.heap.size) (.inl rfl) (tkA R (.slice A7 n7 c7) (.slice A8 n8 c8) (.slice A9 n9 c9)).toList 0 w4 (Fr.refl _ _)
              obtain ⟨W5, hWn⟩ : ∃ W, W = w4.setCells W3.drew.heap.size 0 (tkA R (.slice A7 n7 c7) (.slice A8 n8 c8) (.slice A9 n9 c9)).toList := ⟨_, rfl⟩
              have HZ : Hid (Fr (fun _ => False) W3 W5 ∧ Blk W5 W3.drew.heap.size 27 (tkA R (.slice A7 n7 c7) (.slice A8 n8 c8) (.slice A9 n9 c9)) ∧ RwO W5 w.heap.size 49 6 cpC (.slice A7 n7 c7) R.cps ∧ RwO W5 w.heap.size 62 2 txC (.slice A8 n8 c8) R.txs ∧ RwO W5 w.heap.size 51 4 evC (.slice A9 n9 c9) R.his) := Lib.hid (by
                have hz : w.heap.size ≤ W3.drew.heap.size := ((HI.out.1.trans (HF3.out.trans hS0 (fun _ _ q => q)) (fun _ _ q => q))).size
                have hs : (W3.drew.alloc (.cells zTk 27)).heap.size = W3.drew.heap.size + 1 := Array.size_push _
                have hlt : ∀ b, b = W3.drew.heap.size → b < (W3.drew.alloc (.cells zTk 27)).heap.size := fun b hb => by omega
                have hz2 : w.heap.size ≤ (W3.drew.alloc (.cells zTk 27)).heap.size := by omega
                rw [hWn]
                exact ⟨hx5, blk_row hbz rfl, (o7.keepB hx6 hlt).base hz2, (o8.keepB hx6 hlt).base hz2, (o9.keepB hx6 hlt).base hz2⟩)
              clear hfa
              refine anyH_skip 26 W5 (by kernel_rfl) rfl rfl (by rfl) (by rw [hWn]; exact run_store_mid 27 (.tmp 7) (.tmp 50) rfl W3.drew.heap.size 0 (tkA R (.slice A7 n7 c7) (.slice A8 n8 c8) (.slice A9 n9 c9)) rfl rfl (blk_there hbz (Nat.le_refl 11)) (infoTk' R _ _ _) (tkA_one R _ _ _ _ _ _ _ _ _)) HZ.out.1 ?_
              refine anyH_take 27 8 (.int .i64 (E : Nat)) rfl rfl (by kernel_rfl) (by kernel_rfl) (by kernel_rfl) (fun _ _ _ h => h) (.inl ⟨by rfl, fun w'' hS => by go_simp⟩) HZ.out.1 ?_
              (simp only [List.setIfInBounds_toArray, List.set_cons_zero, List.set_cons_succ])
              refine wpAnyH_done (by kernel_rfl) ?_ _
              clear hbz hx5 hx6 hWn hS4 hS0 f4 o7 o8 o9
              go_wp2_with fail
              go_meet
              exact ⟨W3.drew.heap.size, A7, A8, A9, n7, c7, n8, c8, n9, c9, rfl, rfl, HZ⟩
          obtain ⟨g7, A7, A8, A9, n7, c7, n8, c8, n9, c9, rfl, rfl, HBW5⟩ := hcut
          generalize wc = W5 at *
          go_upto_region 8 with fail
          have HF5 := Lib.hid (HF3.out.trans HBW5.out.1 (fun _ _ q => q))
          go_cut [9, 10] from 19 to 102 (fun s9 s10 wx => ∃ (g : Nat) (A10 A11 A12 : Option Addr) (n10 c10 n11 c11 n12 c12 : Nat), s9 = .pointer (some ⟨g, 0, none⟩) ∧ s10 = .int .i64 (E : Nat) ∧ Hid (Fr (fun _ => False) W5 wx ∧ Blk wx g 27 (tkA R (.slice A10 n10 c10) (.slice A11 n11 c11) (.slice A12 n12 c12)) ∧ RwO wx w.heap.size 49 6 cpC (.slice A10 n10 c10) R.cps ∧ RwO wx w.heap.size 62 2 txC (.slice A11 n11 c11) R.txs ∧ RwO wx w.heap.size 51 4 evC (.slice A12 n12 c12) R.his))
          case first =>
            refine wp_region_held_drew (S := fun w' => Fr (fun _ => False) W5 w') (by kernel_rfl) ((Fr.refl _ W5).drew) (fun hS0 => ?_)
            refine anyH_take 0 53 (.agg (tkA tt (.slice A1 n1 c1) (.slice A2 n2 c2) (.slice A3 n3 c3))) rfl rfl (by kernel_rfl) (by kernel_rfl) (by kernel_rfl) (fun _ _ _ h => h) (yieldsIf_load_mid rfl 27 (.tmp 2) rfl w.heap.size 0 rfl (tkA tt (.slice A1 n1 c1) (.slice A2 n2 c2) (.slice A3 n3 c3)).toList _ (fun w'' hS => blk_range (HI.out.2.keep (HF5.out.trans hS (fun _ _ q => q)) (fun q => q))) Try.underlying27 rfl infoTk) hS0 ?_
            (simp only [List.setIfInBounds_toArray, List.set_cons_zero, List.set_cons_succ])
            refine anyH_take 1 54 (.slice (some ⟨bs, os, none⟩) n cs) rfl rfl (by kernel_rfl) (by kernel_rfl) (by kernel_rfl) (fun _ _ _ h => h) (.inl ⟨by rfl, fun w'' hS => by go_simp⟩) hS0 ?_
            (simp only [List.setIfInBounds_toArray, List.set_cons_zero, List.set_cons_succ])
            refine anyH_take 2 55 (.int .i64 (k : Nat)) rfl rfl (by kernel_rfl) (by kernel_rfl) (by kernel_rfl) (fun _ _ _ h => h) (.inl ⟨by rfl, fun w'' hS => by go_simp⟩) hS0 ?_
            (simp only [List.setIfInBounds_toArray, List.set_cons_zero, List.set_cons_succ])
            refine anyH_take 3 56 (.pointer (some ⟨bs, os + k * 4, none⟩)) rfl rfl (by kernel_rfl) (by kernel_rfl) (by kernel_rfl) (fun _ _ _ h => h) (.inl ⟨by rfl, fun w'' hS => by have q0 := HK.out.1; have q1 := HK.out.2.1; go_simp⟩) hS0 ?_
            (simp only [List.setIfInBounds_toArray, List.set_cons_zero, List.set_cons_succ])
            refine anyH_take 4 57 (.pointer (some ⟨bs, os + k * 4, none⟩)) rfl rfl (by kernel_rfl) (by kernel_rfl) (by kernel_rfl) (fun _ _ _ h => h) (.inl ⟨by rfl, fun w'' hS => by go_simp⟩) hS0 ?_
            (simp only [List.setIfInBounds_toArray, List.set_cons_zero, List.set_cons_succ])
            refine anyH_take 5 58 (.int .i64 x.cp) rfl rfl (by kernel_rfl) (by kernel_rfl) (by kernel_rfl) (fun _ _ _ h => h) (.inl ⟨by rfl, fun w'' hS => by have q0 := (HC.out _ (HF5.out.trans hS (fun _ _ q => q))).1; go_simp⟩) hS0 ?_
            (simp only [List.setIfInBounds_toArray, List.set_cons_zero, List.set_cons_succ])
            refine anyH_take 6 59 (.slice (some ⟨bs, os, none⟩) n cs) rfl rfl (by kernel_rfl) (by kernel_rfl) (by kernel_rfl) (fun _ _ _ h => h) (.inl ⟨by rfl, fun w'' hS => by go_simp⟩) hS0 ?_
            (simp only [List.setIfInBounds_toArray, List.set_cons_zero, List.set_cons_succ])
            refine anyH_take 7 60 (.int .i64 (k : Nat)) rfl rfl (by kernel_rfl) (by kernel_rfl) (by kernel_rfl) (fun _ _ _ h => h) (.inl ⟨by rfl, fun w'' hS => by go_simp⟩) hS0 ?_
            (simp only [List.setIfInBounds_toArray, List.set_cons_zero, List.set_cons_succ])
            refine anyH_take 8 61 (.pointer (some ⟨bs, os + k * 4, none⟩)) rfl rfl (by kernel_rfl) (by kernel_rfl) (by kernel_rfl) (fun _ _ _ h => h) (.inl ⟨by rfl, fun w'' hS => by have q0 := HK.out.1; have q1 := HK.out.2.1; go_simp⟩) hS0 ?_
            (simp only [List.setIfInBounds_toArray, List.set_cons_zero, List.set_cons_succ])
            refine anyH_take 9 62 (.pointer (some ⟨bs, os + k * 4 + 1, none⟩)) rfl rfl (by kernel_rfl) (by kernel_rfl) (by kernel_rfl) (fun _ _ _ h => h) (.inl ⟨by rfl, fun w'' hS => by go_simp⟩) hS0 ?_
            (simp only [List.setIfInBounds_toArray, List.set_cons_zero, List.set_cons_succ])
            refine anyH_take 10 63 (.int .i64 x.dy) rfl rfl (by kernel_rfl) (by kernel_rfl) (by kernel_rfl) (fun _ _ _ h => h) (.inl ⟨by rfl, fun w'' hS => by have q0 := (HC.out _ (HF5.out.trans hS (fun _ _ q => q))).2.1; go_simp⟩) hS0 ?_
            (simp only [List.setIfInBounds_toArray, List.set_cons_zero, List.set_cons_succ])
            refine anyH_take 11 64 (.slice (some ⟨bs, os, none⟩) n cs) rfl rfl (by kernel_rfl) (by kernel_rfl) (by kernel_rfl) (fun _ _ _ h => h) (.inl ⟨by rfl, fun w'' hS => by go_simp⟩) hS0 ?_
            (simp only [List.setIfInBounds_toArray, List.set_cons_zero, List.set_cons_succ])
            refine anyH_take 12 65 (.int .i64 (k : Nat)) rfl rfl (by kernel_rfl) (by kernel_rfl) (by kernel_rfl) (fun _ _ _ h => h) (.inl ⟨by rfl, fun w'' hS => by go_simp⟩) hS0 ?_
            (simp only [List.setIfInBounds_toArray, List.set_cons_zero, List.set_cons_succ])
            refine anyH_take 13 66 (.pointer (some ⟨bs, os + k * 4, none⟩)) rfl rfl (by kernel_rfl) (by kernel_rfl) (by kernel_rfl) (fun _ _ _ h => h) (.inl ⟨by rfl, fun w'' hS => by have q0 := HK.out.1; have q1 := HK.out.2.1; go_simp⟩) hS0 ?_
            (simp only [List.setIfInBounds_toArray, List.set_cons_zero, List.set_cons_succ])
            refine anyH_take 14 67 (.pointer (some ⟨bs, os + k * 4 + 2, none⟩)) rfl rfl (by kernel_rfl) (by kernel_rfl) (by kernel_rfl) (fun _ _ _ h => h) (.inl ⟨by rfl, fun w'' hS => by go_simp⟩) hS0 ?_
            (simp only [List.setIfInBounds_toArray, List.set_cons_zero, List.set_cons_succ])
            refine anyH_take 15 68 (.int .i64 x.tw) rfl rfl (by kernel_rfl) (by kernel_rfl) (by kernel_rfl) (fun _ _ _ h => h) (.inl ⟨by rfl, fun w'' hS => by have q0 := (HC.out _ (HF5.out.trans hS (fun _ _ q => q))).2.2.1; go_simp⟩) hS0 ?_
            (simp only [List.setIfInBounds_toArray, List.set_cons_zero, List.set_cons_succ])
            refine anyH_take 16 69 (.slice (some ⟨bs, os, none⟩) n cs) rfl rfl (by kernel_rfl) (by kernel_rfl) (by kernel_rfl) (fun _ _ _ h => h) (.inl ⟨by rfl, fun w'' hS => by go_simp⟩) hS0 ?_
            (simp only [List.setIfInBounds_toArray, List.set_cons_zero, List.set_cons_succ])
            refine anyH_take 17 70 (.int .i64 (k : Nat)) rfl rfl (by kernel_rfl) (by kernel_rfl) (by kernel_rfl) (fun _ _ _ h => h) (.inl ⟨by rfl, fun w'' hS => by go_simp⟩) hS0 ?_
            (simp only [List.setIfInBounds_toArray, List.set_cons_zero, List.set_cons_succ])
            refine anyH_take 18 71 (.pointer (some ⟨bs, os + k * 4, none⟩)) rfl rfl (by kernel_rfl) (by kernel_rfl) (by kernel_rfl) (fun _ _ _ h => h) (.inl ⟨by rfl, fun w'' hS => by have q0 := HK.out.1; have q1 := HK.out.2.1; go_simp⟩) hS0 ?_
            (simp only [List.setIfInBounds_toArray, List.set_cons_zero, List.set_cons_succ])
            refine anyH_take 19 72 (.pointer (some ⟨bs, os + k * 4 + 3, none⟩)) rfl rfl (by kernel_rfl) (by kernel_rfl) (by kernel_rfl) (fun _ _ _ h => h) (.inl ⟨by rfl, fun w'' hS => by go_simp⟩) hS0 ?_
            (simp only [List.setIfInBounds_toArray, List.set_cons_zero, List.set_cons_succ])
            refine anyH_take 20 73 (.int .u64 (x.wi : Nat)) rfl rfl (by kernel_rfl) (by kernel_rfl) (by kernel_rfl) (fun _ _ _ h => h) (.inl ⟨by rfl, fun w'' hS => by have q0 := (HC.out _ (HF5.out.trans hS (fun _ _ q => q))).2.2.2; go_simp⟩) hS0 ?_
            (simp only [List.setIfInBounds_toArray, List.set_cons_zero, List.set_cons_succ])
            refine anyH_alt13 21 25 (by kernel_rfl) ?_ ?_
            · refine wpOp_call 74 rfl rfl (by rfl) (by go_simp) ((HRC.out _ (HF5.out.trans hS0 (fun _ _ q => q))).mono ?_)
              rintro e w6 ⟨v4, rfl, ⟨s7, s8, s9, rfl, o7, o8, o9⟩, f4⟩
              obtain ⟨A10, n10, c10, ev10⟩ : ∃ A n c, s7 = .slice A n c := by obtain ⟨A, c, e, _⟩ := own_slice o7; exact ⟨A, _, c, e⟩
              obtain ⟨A11, n11, c11, ev11⟩ : ∃ A n c, s8 = .slice A n c := by obtain ⟨A, c, e, _⟩ := own_slice o8; exact ⟨A, _, c, e⟩
              obtain ⟨A12, n12, c12, ev12⟩ : ∃ A n c, s9 = .slice A n c := by obtain ⟨A, c, e, _⟩ := own_slice o9; exact ⟨A, _, c, e⟩
              subst ev10 ev11 ev12
              have hS4 : Fr (fun _ => False) W5 w6 := hS0.trans f4 (fun _ _ q => q)
              refine ⟨_, rfl, hS4, ?_⟩
              (simp only [List.setIfInBounds_toArray, List.set_cons_zero, List.set_cons_succ])
              refine anyH_take 22 52 (.tuple #[.agg (tkA R (.slice A10 n10 c10) (.slice A11 n11 c11) (.slice A12 n12 c12)), .int .i64 (E : Nat)]) rfl rfl (by kernel_rfl) (by kernel_rfl) (by kernel_rfl) (fun _ _ _ h => h) (.inl ⟨by rfl, fun w'' hS => by go_simp⟩) hS4 ?_
              (simp only [List.setIfInBounds_toArray, List.set_cons_zero, List.set_cons_succ])
              refine anyH_take 23 75 (.agg (tkA R (.slice A10 n10 c10) (.slice A11 n11 c11) (.slice A12 n12 c12))) rfl rfl (by kernel_rfl) (by kernel_rfl) (by kernel_rfl) (fun _ _ _ h => h) (.inl ⟨by rfl, fun w'' hS => by go_simp⟩) hS4 ?_
              (simp only [List.setIfInBounds_toArray, List.set_cons_zero, List.set_cons_succ])
              refine anyH_take 24 76 (.int .i64 (E : Nat)) rfl rfl (by kernel_rfl) (by kernel_rfl) (by kernel_rfl) (fun _ _ _ h => h) (.inl ⟨by rfl, fun w'' hS => by go_simp⟩) hS4 ?_
              (simp only [List.setIfInBounds_toArray, List.set_cons_zero, List.set_cons_succ])
              have hbz := Blk.new w6 27 zTk
              have hf5 : Fr (fun _ => False) W5 (w6.alloc (.cells zTk 27)) := hS4.alloc _
              have hf6 : Fr (fun _ => False) w6 (w6.alloc (.cells zTk 27)) := (Fr.refl _ w6).alloc _
              have hx5 := fr_cells (F := fun _ => False) (a := W5) (b := w6.heap.size) (.inr hS4.size) (tkA R (.slice A10 n10 c10) (.slice A11 n11 c11) (.slice A12 n12 c12)).toList 0 (w6.alloc (.cells zTk 27)) hf5
              have hx6 := fr_cells (F := fun _ => False) (a := w6) (b := w6.heap.size) (.inr (Nat.le_refl _)) (tkA R (.slice A10 n10 c10) (.slice A11 n11 c11) (.slice A12 n12 c12)).toList 0 (w6.alloc (.cells zTk 27)) hf6
              obtain ⟨W7, hWn⟩ : ∃ W, W = (w6.alloc (.cells zTk 27)).setCells w6.heap.size 0 (tkA R (.slice A10 n10 c10) (.slice A11 n11 c11) (.slice A12 n12 c12)).toList := ⟨_, rfl⟩
              have HZ : Hid (Fr (fun _ => False) W5 W7 ∧ Blk W7 w6.heap.size 27 (tkA R (.slice A10 n10 c10) (.slice A11 n11 c11) (.slice A12 n12 c12)) ∧ RwO W7 w.heap.size 49 6 cpC (.slice A10 n10 c10) R.cps ∧ RwO W7 w.heap.size 62 2 txC (.slice A11 n11 c11) R.txs ∧ RwO W7 w.heap.size 51 4 evC (.slice A12 n12 c12) R.his) := Lib.hid (by
                have hz : w.heap.size ≤ W5.drew.heap.size := ((HI.out.1.trans (HF5.out.trans hS0 (fun _ _ q => q)) (fun _ _ q => q))).size
                rw [hWn]
                exact ⟨hx5, blk_row hbz rfl, (o7.keep0 hx6).base hz, (o8.keep0 hx6).base hz, (o9.keep0 hx6).base hz⟩)
              refine anyH_value 25 9 (.pointer (some ⟨w6.heap.size, 0, none⟩)) (w6.alloc (.cells zTk 27)) (by kernel_rfl) rfl rfl (by rfl) (by go_simp) hf5 ?_
              (simp only [List.setIfInBounds_toArray, List.set_cons_zero, List.set_cons_succ])
              clear hf5 hf6
              refine anyH_skip 26 W7 (by kernel_rfl) rfl rfl (by rfl) (by rw [hWn]; exact run_store_mid 27 (.tmp 9) (.tmp 75) rfl w6.heap.size 0 (tkA R (.slice A10 n10 c10) (.slice A11 n11 c11) (.slice A12 n12 c12)) rfl rfl (blk_there hbz (Nat.le_refl 11)) (infoTk' R _ _ _) (tkA_one R _ _ _ _ _ _ _ _ _)) HZ.out.1 ?_
              refine anyH_take 27 10 (.int .i64 (E : Nat)) rfl rfl (by kernel_rfl) (by kernel_rfl) (by kernel_rfl) (fun _ _ _ h => h) (.inl ⟨by rfl, fun w'' hS => by go_simp⟩) HZ.out.1 ?_
              (simp only [List.setIfInBounds_toArray, List.set_cons_zero, List.set_cons_succ])
              refine wpAnyH_done (by kernel_rfl) ?_ _
              clear hbz hx5 hx6 hWn hS4 hS0 f4 o7 o8 o9
              go_wp2_with fail
              go_meet
              exact ⟨w6.heap.size, A10, A11, A12, n10, c10, n11, c11, n12, c12, rfl, rfl, HZ⟩
            · have hfa : Fr (fun _ => False) W5 (W5.drew.alloc (.cells zTk 27)) := hS0.alloc _
              refine wpOp_value (w' := W5.drew.alloc (.cells zTk 27)) 9 (.pointer (some ⟨W5.drew.heap.size, 0, none⟩)) rfl rfl (by rfl) (by go_simp) ⟨hfa, ?_⟩
              (simp only [List.setIfInBounds_toArray, List.set_cons_zero, List.set_cons_succ])
              refine anyH_enter 21 74 (by kernel_rfl) rfl rfl (by rfl) (by go_simp) ((HRC.out _ (HF5.out.trans hfa (fun _ _ q => q))).mono ?_)
              rintro e w6 ⟨v4, rfl, ⟨s7, s8, s9, rfl, o7, o8, o9⟩, f4⟩
              obtain ⟨A10, n10, c10, ev10⟩ : ∃ A n c, s7 = .slice A n c := by obtain ⟨A, c, e, _⟩ := own_slice o7; exact ⟨A, _, c, e⟩
              obtain ⟨A11, n11, c11, ev11⟩ : ∃ A n c, s8 = .slice A n c := by obtain ⟨A, c, e, _⟩ := own_slice o8; exact ⟨A, _, c, e⟩
              obtain ⟨A12, n12, c12, ev12⟩ : ∃ A n c, s9 = .slice A n c := by obtain ⟨A, c, e, _⟩ := own_slice o9; exact ⟨A, _, c, e⟩
              subst ev10 ev11 ev12
              have hS4 : Fr (fun _ => False) W5 w6 := hfa.trans f4 (fun _ _ q => q)
              refine ⟨_, rfl, hS4, ?_⟩
              (simp only [List.setIfInBounds_toArray, List.set_cons_zero, List.set_cons_succ])
              refine anyH_take 22 52 (.tuple #[.agg (tkA R (.slice A10 n10 c10) (.slice A11 n11 c11) (.slice A12 n12 c12)), .int .i64 (E : Nat)]) rfl rfl (by kernel_rfl) (by kernel_rfl) (by kernel_rfl) (fun _ _ _ h => h) (.inl ⟨by rfl, fun w'' hS => by go_simp⟩) hS4 ?_
              (simp only [List.setIfInBounds_toArray, List.set_cons_zero, List.set_cons_succ])
              refine anyH_take 23 75 (.agg (tkA R (.slice A10 n10 c10) (.slice A11 n11 c11) (.slice A12 n12 c12))) rfl rfl (by kernel_rfl) (by kernel_rfl) (by kernel_rfl) (fun _ _ _ h => h) (.inl ⟨by rfl, fun w'' hS => by go_simp⟩) hS4 ?_
              (simp only [List.setIfInBounds_toArray, List.set_cons_zero, List.set_cons_succ])
              refine anyH_take 24 76 (.int .i64 (E : Nat)) rfl rfl (by kernel_rfl) (by kernel_rfl) (by kernel_rfl) (fun _ _ _ h => h) (.inl ⟨by rfl, fun w'' hS => by go_simp⟩) hS4 ?_
              (simp only [List.setIfInBounds_toArray, List.set_cons_zero, List.set_cons_succ])
              have hbz := (Blk.new W5.drew 27 zTk).keep f4 (fun q => q)
              have hx5 := fr_cells (F := fun _ => False) (a := W5) (b := W5.drew.heap.size) (.inr hS0.size) (tkA R (.slice A10 n10 c10) (.slice A11 n11 c11) (.slice A12 n12 c12)).toList 0 w6 hS4
              have hx6 := fr_cells (F := fun b => b = W5.drew.heap.size) (a := w6) (b := W5.drew.heap.size) (.inl rfl) (tkA R (.slice A10 n10 c10) (.slice A11 n11 c11) (.slice A12 n12 c12)).toList 0 w6 (Fr.refl _ _)
              obtain ⟨W7, hWn⟩ : ∃ W, W = w6.setCells W5.drew.heap.size 0 (tkA R (.slice A10 n10 c10) (.slice A11 n11 c11) (.slice A12 n12 c12)).toList := ⟨_, rfl⟩
              have HZ : Hid (Fr (fun _ => False) W5 W7 ∧ Blk W7 W5.drew.heap.size 27 (tkA R (.slice A10 n10 c10) (.slice A11 n11 c11) (.slice A12 n12 c12)) ∧ RwO W7 w.heap.size 49 6 cpC (.slice A10 n10 c10) R.cps ∧ RwO W7 w.heap.size 62 2 txC (.slice A11 n11 c11) R.txs ∧ RwO W7 w.heap.size 51 4 evC (.slice A12 n12 c12) R.his) := Lib.hid (by
                have hz : w.heap.size ≤ W5.drew.heap.size := ((HI.out.1.trans (HF5.out.trans hS0 (fun _ _ q => q)) (fun _ _ q => q))).size
                have hs : (W5.drew.alloc (.cells zTk 27)).heap.size = W5.drew.heap.size + 1 := Array.size_push _
                have hlt : ∀ b, b = W5.drew.heap.size → b < (W5.drew.alloc (.cells zTk 27)).heap.size := fun b hb => by omega
                have hz2 : w.heap.size ≤ (W5.drew.alloc (.cells zTk 27)).heap.size := by omega
                rw [hWn]
                exact ⟨hx5, blk_row hbz rfl, (o7.keepB hx6 hlt).base hz2, (o8.keepB hx6 hlt).base hz2, (o9.keepB hx6 hlt).base hz2⟩)
              clear hfa
              refine anyH_skip 26 W7 (by kernel_rfl) rfl rfl (by rfl) (by rw [hWn]; exact run_store_mid 27 (.tmp 9) (.tmp 75) rfl W5.drew.heap.size 0 (tkA R (.slice A10 n10 c10) (.slice A11 n11 c11) (.slice A12 n12 c12)) rfl rfl (blk_there hbz (Nat.le_refl 11)) (infoTk' R _ _ _) (tkA_one R _ _ _ _ _ _ _ _ _)) HZ.out.1 ?_
              refine anyH_take 27 10 (.int .i64 (E : Nat)) rfl rfl (by kernel_rfl) (by kernel_rfl) (by kernel_rfl) (fun _ _ _ h => h) (.inl ⟨by rfl, fun w'' hS => by go_simp⟩) HZ.out.1 ?_
              (simp only [List.setIfInBounds_toArray, List.set_cons_zero, List.set_cons_succ])
              refine wpAnyH_done (by kernel_rfl) ?_ _
              clear hbz hx5 hx6 hWn hS4 hS0 f4 o7 o8 o9
              go_wp2_with fail
              go_meet
              exact ⟨W5.drew.heap.size, A10, A11, A12, n10, c10, n11, c11, n12, c12, rfl, rfl, HZ⟩
          obtain ⟨g9, A10, A11, A12, n10, c10, n11, c11, n12, c12, rfl, rfl, HBW7⟩ := hcut
          generalize wc = W7 at *
          have HF7 := Lib.hid (HF5.out.trans HBW7.out.1 (fun _ _ q => q))
          have HX7 := Lib.hid (HBW5.out.2.1.keep HBW7.out.1 (fun q => q))
          have HX6 := Lib.hid (HB6.out.2.keep (HBW5.out.1.trans HBW7.out.1 (fun _ _ q => q)) (fun q => q))
          have HVP : Hid (TkV W7 (.agg (tkA R (.slice A7 n7 c7) (.slice A8 n8 c8) (.slice A9 n9 c9))) R) := Lib.hid (⟨_, _, _, rfl, (HBW5.out.2.2.1.keep0 HBW7.out.1).rd cpC_len, (HBW5.out.2.2.2.1.keep0 HBW7.out.1).rd txC_len, (HBW5.out.2.2.2.2.keep0 HBW7.out.1).rd evC_len⟩ : TkV W7 (.agg (tkA R (.slice A7 n7 c7) (.slice A8 n8 c8) (.slice A9 n9 c9))) R)
          have HVR : Hid (TkV W7 (.agg (tkA R (.slice A10 n10 c10) (.slice A11 n11 c11) (.slice A12 n12 c12))) R) := Lib.hid (⟨_, _, _, rfl, HBW7.out.2.2.1.rd cpC_len, HBW7.out.2.2.2.1.rd txC_len, HBW7.out.2.2.2.2.rd evC_len⟩ : TkV W7 (.agg (tkA R (.slice A10 n10 c10) (.slice A11 n11 c11) (.slice A12 n12 c12))) R)
          have HSA := Lib.hid (rsame_any HVP.out HVR.out)
          have HSB := Lib.hid (fun W f => rsame_any (w := W) ((HOW.out.keep0 (HB6.out.1.trans (HBW5.out.1.trans HBW7.out.1 (fun _ _ q => q)) (fun _ _ q => q))).keep0 f) ((HJ.out.1.keep0 HF7.out).keep0 f))
          rw [decide_eq_true rfl] at HSA
          simp only [decide_true] at HSB
          have HBX := Lib.hid (HI.out.2.keep HF7.out (fun q => q))
          by_cases hz : E = 0
          · have hz1 : ((E : Nat) : Int) = 0 := by omega
            have hR := HMAY.out hz
            have HOK := Lib.hid hR
            have HPM := Lib.hid (fun W f => pmayt_any (w := W) (HVP.out.keep0 f) hR.2.2 (by have := much_small hR.2.1; omega))
            have HRM := Lib.hid (fun W f => rmayt_any (w := W) (HVR.out.keep0 f) hR.2.2 (by have := much_small hR.2.1; omega))
            simp only [hR.1] at HPM HRM
            clear hR hz
            go_wp2_with (first | (refine wpList_load_midG (by rfl) 27 (.tmp 7) rfl g7 0 rfl (tkA R (.slice A7 n7 c7) (.slice A8 n8 c8) (.slice A9 n9 c9)).toList _ (blk_range (HX7.out)) Try.underlying27 rfl infoTk ?_) | (refine wpList_load_midG (by rfl) 27 (.tmp 9) rfl g9 0 rfl (tkA R (.slice A10 n10 c10) (.slice A11 n11 c11) (.slice A12 n12 c12)).toList _ (blk_range (HBW7.out.2.1)) Try.underlying27 rfl infoTk ?_))
            refine HSA.out.mono ?_
            rintro e w8 ⟨rfl, f8⟩
            have HF8 := Lib.hid f8
            have HY6 := Lib.hid (HX6.out.keep f8 (fun q => q))
            have HY2 := Lib.hid (HBX.out.keep f8 (fun q => q))
            clear f8
            go_wp2_with (first | (refine wpList_load_midG (by rfl) 27 (.tmp 6) rfl g6 0 rfl (tkA tt (.slice A4 n4 c4) (.slice A5 n5 c5) (.slice A6 n6 c6)).toList _ (blk_range (HY6.out)) Try.underlying27 rfl infoTk ?_) | (refine wpList_load_midG (by rfl) 27 (.tmp 2) rfl w.heap.size 0 rfl (tkA tt (.slice A1 n1 c1) (.slice A2 n2 c2) (.slice A3 n3 c3)).toList _ (blk_range (HY2.out)) Try.underlying27 rfl infoTk ?_))
            refine (HSB.out _ HF8.out).mono ?_
            rintro e w9 ⟨rfl, f9⟩
            have HF9 := Lib.hid (HF8.out.trans f9 (fun _ _ q => q))
            clear f9 HY6 HY2
            have HZ7 := Lib.hid (HX7.out.keep HF9.out (fun q => q))
            go_wp2_with (refine wpList_load_mid rfl 27 (.tmp 7) rfl g7 0 rfl (tkA R (.slice A7 n7 c7) (.slice A8 n8 c8) (.slice A9 n9 c9)).toList _ (blk_range (HZ7.out)) Try.underlying27 rfl infoTk ?_)
            refine (HPM.out _ HF9.out).mono ?_
            rintro e wA ⟨rfl, fA⟩
            have HFA := Lib.hid (HF9.out.trans fA (fun _ _ q => q))
            have HZ9 := Lib.hid (HBW7.out.2.1.keep HFA.out (fun q => q))
            clear fA HZ7
            go_wp2_with (refine wpList_load_midG (by rfl) 27 (.tmp 9) rfl g9 0 rfl (tkA R (.slice A10 n10 c10) (.slice A11 n11 c11) (.slice A12 n12 c12)).toList _ (blk_range (HZ9.out)) Try.underlying27 rfl infoTk ?_)
            refine (HRM.out _ HFA.out).mono ?_
            rintro e wB ⟨rfl, fB⟩
            have HFQ := Lib.hid (HFA.out.trans fB (fun _ _ q => q))
            have HZB := Lib.hid (HX7.out.keep HFQ.out (fun q => q))
            have HB2 := Lib.hid (HBX.out.keep HFQ.out (fun q => q))
            clear fB HZ9 hz1
            have hfr := (HI.out.1.trans HF7.out (fun _ _ q => q)).trans HFQ.out (fun _ _ q => q)
            have hxa := fr_cells (F := fun _ => False) (a := w) (b := w.heap.size) (.inr (Nat.le_refl _)) (tkA R (.slice A7 n7 c7) (.slice A8 n8 c8) (.slice A9 n9 c9)).toList 0 wB hfr
            have hxb := fr_cells (F := fun b => b = w.heap.size) (a := wB) (b := w.heap.size) (.inl rfl) (tkA R (.slice A7 n7 c7) (.slice A8 n8 c8) (.slice A9 n9 c9)).toList 0 wB (Fr.refl _ _)
            obtain ⟨WN, hWN⟩ : ∃ W, W = wB.setCells w.heap.size 0 (tkA R (.slice A7 n7 c7) (.slice A8 n8 c8) (.slice A9 n9 c9)).toList := ⟨_, rfl⟩
            have HIN : Hid (Fr (fun _ => False) w WN ∧ Blk WN w.heap.size 27 (tkA R (.slice A7 n7 c7) (.slice A8 n8 c8) (.slice A9 n9 c9))) := Lib.hid (by rw [hWN]; exact ⟨hxa, blk_row HB2.out rfl⟩)
            have HJN : Hid (TkV WN (.agg (tkA R (.slice A7 n7 c7) (.slice A8 n8 c8) (.slice A9 n9 c9))) R ∧ TkOk R ∧ muchT R = false) := Lib.hid (by
              have f0 := HBW7.out.1.trans HFQ.out (fun _ _ q => q)
              rw [← hWN] at hxb
              exact ⟨⟨_, _, _, rfl, (rwo_off (HBW5.out.2.2.1.keep0 f0) hxb HB2.out (by decide)).rd cpC_len, (rwo_off (HBW5.out.2.2.2.1.keep0 f0) hxb HB2.out (by decide)).rd txC_len, (rwo_off (HBW5.out.2.2.2.2.keep0 f0) hxb HB2.out (by decide)).rd evC_len⟩, HOK.out.2.2, HOK.out.2.1⟩)
            have HQN := Lib.hid hWN
            clear hWN hfr hxa hxb
            go_upto_region 5 with (first | (refine wpList_load_mid rfl 27 (.tmp 7) rfl g7 0 rfl (tkA R (.slice A7 n7 c7) (.slice A8 n8 c8) (.slice A9 n9 c9)).toList _ (blk_range (HZB.out)) Try.underlying27 rfl infoTk ?_) | (refine wpList_store_mid rfl 27 (.tmp 2) (.tmp 102) rfl w.heap.size 0 (tkA R (.slice A7 n7 c7) (.slice A8 n8 c8) (.slice A9 n9 c9)) rfl rfl (blk_there HB2.out (Nat.le_refl 11)) (infoTk' R _ _ _) (tkA_one R _ _ _ _ _ _ _ _ _) ?_))
            rw [← HQN.out]
            clear HQN
            have hn71 := hn70
            have hklt := HK.out.2.2
            go_wp2_with fail
            refine ⟨⟨k + 1, R, A7, A8, A9, n7, c7, n8, c8, n9, c9, by go_num, by have := HK.out.2.2; omega, HIN, HJN⟩, ?_⟩
            simp [intOf]
            omega
          · have hz1 : ¬ ((E : Nat) : Int) = 0 := by omega
            have hz2 : (((E : Nat) : Int) == 0) = false := by rw [beq_eq_false_iff_ne]; exact hz1
            clear hz
            go_wp2_with (first | (refine wpList_load_midG (by rfl) 27 (.tmp 7) rfl g7 0 rfl (tkA R (.slice A7 n7 c7) (.slice A8 n8 c8) (.slice A9 n9 c9)).toList _ (blk_range (HX7.out)) Try.underlying27 rfl infoTk ?_) | (refine wpList_load_midG (by rfl) 27 (.tmp 9) rfl g9 0 rfl (tkA R (.slice A10 n10 c10) (.slice A11 n11 c11) (.slice A12 n12 c12)).toList _ (blk_range (HBW7.out.2.1)) Try.underlying27 rfl infoTk ?_))
            refine HSA.out.mono ?_
            rintro e w8 ⟨rfl, f8⟩
            have HF8 := Lib.hid f8
            have HY6 := Lib.hid (HX6.out.keep f8 (fun q => q))
            have HY2 := Lib.hid (HBX.out.keep f8 (fun q => q))
            clear f8
            go_wp2_with (first | (refine wpList_load_midG (by rfl) 27 (.tmp 6) rfl g6 0 rfl (tkA tt (.slice A4 n4 c4) (.slice A5 n5 c5) (.slice A6 n6 c6)).toList _ (blk_range (HY6.out)) Try.underlying27 rfl infoTk ?_) | (refine wpList_load_midG (by rfl) 27 (.tmp 2) rfl w.heap.size 0 rfl (tkA tt (.slice A1 n1 c1) (.slice A2 n2 c2) (.slice A3 n3 c3)).toList _ (blk_range (HY2.out)) Try.underlying27 rfl infoTk ?_))
            refine (HSB.out _ HF8.out).mono ?_
            rintro e w9 ⟨rfl, f9⟩
            have HF9 := Lib.hid (HF8.out.trans f9 (fun _ _ q => q))
            clear f9 HY6 HY2
            have HFQ := Lib.hid (HF7.out.trans HF9.out (fun _ _ q => q))
            have HIN : Hid (Fr (fun _ => False) w w9 ∧ Blk w9 w.heap.size 27 (tkA tt (.slice A1 n1 c1) (.slice A2 n2 c2) (.slice A3 n3 c3))) := Lib.hid ⟨HI.out.1.trans HFQ.out (fun _ _ q => q), HI.out.2.keep HFQ.out (fun q => q)⟩
            have HJN : Hid (TkV w9 (.agg (tkA tt (.slice A1 n1 c1) (.slice A2 n2 c2) (.slice A3 n3 c3))) tt ∧ TkOk tt ∧ muchT tt = false) := Lib.hid ⟨HJ.out.1.keep0 HFQ.out, HJ.out.2⟩
            have hklt := HK.out.2.2
            go_wp2_with fail
            refine ⟨⟨k + 1, tt, A1, A2, A3, n1, c1, n2, c2, n3, c3, by go_num, by have := HK.out.2.2; omega, HIN, HJN⟩, ?_⟩
            simp [intOf]
            omega
        · obtain rfl : k = n := by omega
          have hkk : ¬ (k : Int) < (k : Int) := by omega
          have HFW := Lib.hid HI.out.1
          clear hlt hk hn70
          go_wp2_with fail
          refine (HKN.out _).mono ?_
          rintro e w2 ⟨rfl, f2⟩
          have HF2 := Lib.hid (HFW.out.trans f2 (fun _ _ q => q))
          clear f2
          go_wp2_with fail
          go_ret
          exact ⟨rfl, HF2.out⟩
end Go.Proofs.Ytmopkfjnjbimnaa
