/- The law TicketLast. -/
import Derived.Test.YtmopkfjnjbimnaaKl4
import Derived.Test.YtmopkfjnjbimnaaKct
namespace Go.Proofs.Ytmopkfjnjbimnaa
open Go.RowKit

theorem rwv_n {α : Type} {w : World} {k : Nat} {enc : α → List Value} {A : Option Addr} {n c : Nat} {xs : List α} (h : RwV w k enc (.slice A n c) xs) : n = xs.length := by
  obtain ⟨A', c', e, _⟩ := h.slice
  injection e
theorem tkv_e {w : World} {t : TkD} {A : Option Addr} {n c : Nat} {s1 s2 : Value} (h : TkV w (.agg (tkA t s1 s2 (.slice A n c))) t) : RwV w 4 evC (.slice A n c) t.his := by
  obtain ⟨sc, sx, se, e, -, -, h1⟩ := h
  have e2 : Value.slice A n c = se := by
    injection e with e1
    exact congrArg (fun a => a.getD 10 undef) e1
  rw [e2]
  exact h1
theorem tkv_n {w : World} {t : TkD} {A : Option Addr} {n c : Nat} {s2 s3 : Value} (h : TkV w (.agg (tkA t (.slice A n c) s2 s3)) t) : RwV w 6 cpC (.slice A n c) t.cps := by
  obtain ⟨sc, sx, se, e, h1, -, -⟩ := h
  have e2 : Value.slice A n c = sc := by
    injection e with e1
    exact congrArg (fun a => a.getD 3 undef) e1
  rw [e2]
  exact h1
set_option maxRecDepth 100000 in
set_option maxHeartbeats 16000000 in
theorem tlast {w : World} {v sv : Value} {t : TkD} {l : List StpD} (hv : TkV w v t) (hok : TkOk t) (hl : RwV w 4 stpC sv l) (hlo : ∀ x ∈ l, StpOk x) : Calls Try.prog 5 #[v, sv] w (Tru w) := by
  have HV := Lib.hid hv
  obtain ⟨q1, q2, q3, rfl, a1, a2, a3⟩ := hv
  obtain ⟨A1, n1, c1, e1⟩ : ∃ A n c, q1 = .slice A n c := by obtain ⟨A, c, e, _⟩ := a1.slice; exact ⟨A, _, c, e⟩
  obtain ⟨A2, n2, c2, e2⟩ : ∃ A n c, q2 = .slice A n c := by obtain ⟨A, c, e, _⟩ := a2.slice; exact ⟨A, _, c, e⟩
  obtain ⟨A3, n3, c3, e3⟩ : ∃ A n c, q3 = .slice A n c := by obtain ⟨A, c, e, _⟩ := a3.slice; exact ⟨A, _, c, e⟩
  subst e1 e2 e3
  have HT := Lib.hid hok
  have HLO := Lib.hid hlo
  obtain ⟨As, n, cs, es, en⟩ : ∃ A n c, sv = .slice A n c ∧ n = l.length := by obtain ⟨A, c, e, _⟩ := hl.slice; exact ⟨A, _, c, e, rfl⟩
  subst es
  have HL := Lib.hid hl
  have HN := Lib.hid en
  obtain ⟨W0, hW0⟩ : ∃ W, W = w.alloc (.cells (tkA t (.slice A1 n1 c1) (.slice A2 n2 c2) (.slice A3 n3 c3)) 27) := ⟨_, rfl⟩
  have HB : Hid (Fr (fun _ => False) w W0 ∧ Blk W0 w.heap.size 27 (tkA t (.slice A1 n1 c1) (.slice A2 n2 c2) (.slice A3 n3 c3))) := Lib.hid (by rw [hW0]; exact ⟨(Fr.refl _ w).alloc _, Blk.new w _ _⟩)
  have HQ := Lib.hid hW0
  have HMU := Lib.hid (fun W f => rmuch_any (w := W) (HV.out.keep0 f))
  have HMY := Lib.hid (fun W f h => rmayt_any (w := W) (HV.out.keep0 f) HT.out h)
  have HKN := Lib.hid (fun W => known_any W)
  clear a1 a2 a3 hW0 hok hl hlo en
  go_enter Try.func5, Try.ntmps5
  go_upto_region 1 with fail
  rw [← HQ.out]
  clear HQ
  have HBL := Lib.hid HB.out.2
  have HFB := Lib.hid HB.out.1
  clear HB
  cases e0 : muchT t with
  | true =>
    rw [e0] at HMU
    go_wp2_with (refine wpList_load_midG (by rfl) 27 (.tmp 2) rfl w.heap.size 0 rfl (tkA t (.slice A1 n1 c1) (.slice A2 n2 c2) (.slice A3 n3 c3)).toList _ (blk_range (HBL.out)) Try.underlying27 rfl infoTk ?_)
    refine (HMU.out _ HFB.out).mono ?_
    rintro e w1 ⟨rfl, f1⟩
    have HF1 := Lib.hid (HFB.out.trans f1 (fun _ _ q => q))
    clear f1
    go_wp2_with fail
    refine (HKN.out _).mono ?_
    rintro e wk ⟨rfl, fk⟩
    have HFK := Lib.hid (HF1.out.trans fk (fun _ _ q => q))
    clear fk
    go_wp2_with fail
    go_ret
    exact ⟨rfl, HFK.out⟩
  | false =>
    rw [e0] at HMU
    have HMZ := Lib.hid (fun W f => HMY.out W f (by have := much_small e0; omega))
    clear HMY
    go_wp2_with (refine wpList_load_midG (by rfl) 27 (.tmp 2) rfl w.heap.size 0 rfl (tkA t (.slice A1 n1 c1) (.slice A2 n2 c2) (.slice A3 n3 c3)).toList _ (blk_range (HBL.out)) Try.underlying27 rfl infoTk ?_)
    refine (HMU.out _ HFB.out).mono ?_
    rintro e w1 ⟨rfl, f1⟩
    have HF1 := Lib.hid (HFB.out.trans f1 (fun _ _ q => q))
    have HBL1 := Lib.hid (HBL.out.keep f1 (fun q => q))
    clear f1 HMU HBL HFB
    cases e1 : mayT t with
    | false =>
      rw [e1] at HMZ
      go_wp2_with (refine wpList_load_midG (by rfl) 27 (.tmp 2) rfl w.heap.size 0 rfl (tkA t (.slice A1 n1 c1) (.slice A2 n2 c2) (.slice A3 n3 c3)).toList _ (blk_range (HBL1.out)) Try.underlying27 rfl infoTk ?_)
      refine (HMZ.out _ HF1.out).mono ?_
      rintro e w2 ⟨rfl, f2⟩
      have HF2 := Lib.hid (HF1.out.trans f2 (fun _ _ q => q))
      clear f2
      go_wp2_with fail
      refine (HKN.out _).mono ?_
      rintro e wk ⟨rfl, fk⟩
      have HFK := Lib.hid (HF2.out.trans fk (fun _ _ q => q))
      clear fk
      go_wp2_with fail
      go_ret
      exact ⟨rfl, HFK.out⟩
    | true =>
      rw [e1] at HMZ
      by_cases h70 : 40 < n
      · have h71 : (40 : Int) < (n : Int) := by omega
        clear h70
        go_wp2_with (refine wpList_load_midG (by rfl) 27 (.tmp 2) rfl w.heap.size 0 rfl (tkA t (.slice A1 n1 c1) (.slice A2 n2 c2) (.slice A3 n3 c3)).toList _ (blk_range (HBL1.out)) Try.underlying27 rfl infoTk ?_)
        refine (HMZ.out _ HF1.out).mono ?_
        rintro e w2 ⟨rfl, f2⟩
        have HF2 := Lib.hid (HF1.out.trans f2 (fun _ _ q => q))
        clear f2
        go_wp2_with fail
        refine (HKN.out _).mono ?_
        rintro e wk ⟨rfl, fk⟩
        have HFK := Lib.hid (HF2.out.trans fk (fun _ _ q => q))
        clear fk
        go_wp2_with fail
        go_ret
        exact ⟨rfl, HFK.out⟩
      · have h71 : ¬ (40 : Int) < (n : Int) := by omega
        have HE0 := Lib.hid (And.intro e0 e1)
        have H70 := Lib.hid h70
        clear h70 e0 e1
        go_wp2_with (refine wpList_load_midG (by rfl) 27 (.tmp 2) rfl w.heap.size 0 rfl (tkA t (.slice A1 n1 c1) (.slice A2 n2 c2) (.slice A3 n3 c3)).toList _ (blk_range (HBL1.out)) Try.underlying27 rfl infoTk ?_)
        refine (HMZ.out _ HF1.out).mono ?_
        rintro e w2 ⟨rfl, f2⟩
        have HI : Hid (Fr (fun _ => False) w w2 ∧ Blk w2 w.heap.size 27 (tkA t (.slice A1 n1 c1) (.slice A2 n2 c2) (.slice A3 n3 c3))) := Lib.hid ⟨HF1.out.trans f2 (fun _ _ q => q), HBL1.out.keep f2 (fun q => q)⟩
        have HJ : Hid (TkV w2 (.agg (tkA t (.slice A1 n1 c1) (.slice A2 n2 c2) (.slice A3 n3 c3))) t ∧ TkOk t ∧ muchT t = false ∧ mayT t = true ∧ ∀ W, Fr (fun b => b = w.heap.size) w2 W → TkV W (.agg (tkA t (.slice A1 n1 c1) (.slice A2 n2 c2) (.slice A3 n3 c3))) t) := Lib.hid ⟨HV.out.keep0 HI.out.1, HT.out, HE0.out.1, HE0.out.2, fun W f => HV.out.keep0 (HI.out.1.trans f (fun b hb q => by have h6 : b = w.heap.size := q; omega))⟩
        clear f2 HMZ HBL1 HF1 HV HT HE0
        go_wp2_with fail
        clear h71
        go_loopw [5] (fun x wr => ∃ (k : Nat) (tt : TkD) (A1 A2 A3 : Option Addr) (n1 c1 n2 c2 n3 c3 : Nat), x = .int .i64 k ∧ k ≤ n ∧ Hid (Fr (fun _ => False) w wr ∧ Blk wr w.heap.size 27 (tkA tt (.slice A1 n1 c1) (.slice A2 n2 c2) (.slice A3 n3 c3))) ∧ Hid (TkV wr (.agg (tkA tt (.slice A1 n1 c1) (.slice A2 n2 c2) (.slice A3 n3 c3))) tt ∧ TkOk tt ∧ muchT tt = false ∧ mayT tt = true ∧ ∀ W, Fr (fun b => b = w.heap.size) wr W → TkV W (.agg (tkA tt (.slice A1 n1 c1) (.slice A2 n2 c2) (.slice A3 n3 c3))) tt)) (fun x _ => n - (intOf x).toNat)
        case atStart => exact ⟨0, t, A1, A2, A3, n1, c1, n2, c2, n3, c3, rfl, Nat.zero_le _, HI, HJ⟩
        case round =>
          clear HI HJ
          obtain ⟨k, tt, A1, A2, A3, n1, c1, n2, c2, n3, c3, rfl, hk, HI, HJ⟩ := hrel
          have hn70 : n ≤ 40 := by have := H70.out; omega
          by_cases hlt : k < n
          · obtain ⟨x, hx⟩ : ∃ x, l[k]? = some x := ⟨_, List.getElem?_eq_getElem (by rw [← HN.out]; exact hlt)⟩
            have hxo := HLO.out x (List.mem_of_getElem? hx)
            obtain ⟨bs, os, c9, e9, hcell⟩ := HL.out.cell hx
            injection e9 with e9 e9n e9c
            subst e9
            clear e9n e9c
            have HC : Hid (∀ W, Fr (fun _ => False) wr W → W.cell? ⟨bs, os + k * 4, none⟩ = some (.int .i64 x.cp) ∧ W.cell? ⟨bs, os + k * 4 + 1, none⟩ = some (.int .i64 x.dy) ∧ W.cell? ⟨bs, os + k * 4 + 2, none⟩ = some (.int .i64 x.tw) ∧ W.cell? ⟨bs, os + k * 4 + 3, none⟩ = some (.int .u64 (x.wi : Nat))) := Lib.hid (fun W f => by
              have f0 := HI.out.1.trans f (fun _ _ q => q)
              have hh : ∀ j u, (stpC x)[j]? = some u → W.cell? ⟨bs, os + k * 4 + j, none⟩ = some u := fun j u hu => by
                have h1 := hcell j u hu
                exact (f0.cell (World.block_lt_of_cell? w _ h1) (fun q => q)).trans h1
              exact ⟨hh 0 _ rfl, hh 1 _ rfl, hh 2 _ rfl, hh 3 _ rfl⟩)
            have HK : Hid ((0 : Int) ≤ (k : Int) ∧ (k : Int) < (n : Int) ∧ k < n) := Lib.hid ⟨by omega, by omega, hlt⟩
            have HSM := Lib.hid (much_small HJ.out.2.2.1)
            have HPC := Lib.hid (fun W f => pchange_any (w := W) (HJ.out.1.keep0 f) HJ.out.2.1 HJ.out.2.2.1 x.cp x.dy x.tw hxo.tw x.wi hxo.wi)
            have HKP := Lib.hid (fun (h : chgE tt x.cp x.dy x.tw x.wi = 0) => chg_keeps h)
            have HMAY := Lib.hid (fun (h : chgE tt x.cp x.dy x.tw x.wi = 0) => And.intro (chg_may h) (And.intro (chg_much h HJ.out.2.2.1) (chg_ok HJ.out.2.1 hxo.cp hxo.dy hxo.tw hxo.wi)))
            obtain ⟨R, hR⟩ : ∃ R, R = chgT tt x.cp x.dy x.tw x.wi := ⟨_, rfl⟩
            obtain ⟨E, hE⟩ : ∃ E, E = chgE tt x.cp x.dy x.tw x.wi := ⟨_, rfl⟩
            rw [← hR, ← hE] at HPC HMAY HKP
            have hk0 : (0 : Int) ≤ (k : Int) := by omega
            have hkm : (k : Int) < (n : Int) := by omega
            have HBR := Lib.hid HI.out.2
            clear hR hE hx hxo hcell hlt
            go_upto_region 7 with (refine wpList_load_mid rfl 27 (.tmp 2) rfl w.heap.size 0 rfl (tkA tt (.slice A1 n1 c1) (.slice A2 n2 c2) (.slice A3 n3 c3)).toList _ (blk_range (HBR.out)) Try.underlying27 rfl infoTk ?_)
            obtain ⟨W3, hW3⟩ : ∃ W, W = wr.alloc (.cells (tkA tt (.slice A1 n1 c1) (.slice A2 n2 c2) (.slice A3 n3 c3)) 27) := ⟨_, rfl⟩
            obtain ⟨g6, hg6⟩ : ∃ g, g = wr.heap.size := ⟨_, rfl⟩
            have HB6 : Hid (Fr (fun _ => False) wr W3 ∧ Blk W3 g6 27 (tkA tt (.slice A1 n1 c1) (.slice A2 n2 c2) (.slice A3 n3 c3)) ∧ w.heap.size < g6) := Lib.hid (by rw [hW3, hg6]; exact ⟨(Fr.refl _ wr).alloc _, Blk.new wr _ _, HI.out.2.lt⟩)
            have HF3 := Lib.hid HB6.out.1
            rw [← hW3, ← hg6]
            clear hW3 hg6 HBR hk0 hkm
            go_cut [7, 8] from 26 to 94 (fun s7 s8 wx => ∃ (g : Nat) (A7 A8 A9 : Option Addr) (n7 c7 n8 c8 n9 c9 : Nat), s7 = .pointer (some ⟨g, 0, none⟩) ∧ s8 = .int .i64 (E : Nat) ∧ Hid (Fr (fun _ => False) W3 wx ∧ Blk wx g 27 (tkA R (.slice A7 n7 c7) (.slice A8 n8 c8) (.slice A9 n9 c9)) ∧ RwO wx w.heap.size 49 6 cpC (.slice A7 n7 c7) R.cps ∧ RwO wx w.heap.size 62 2 txC (.slice A8 n8 c8) R.txs ∧ RwO wx w.heap.size 51 4 evC (.slice A9 n9 c9) R.his))
            case first =>
              refine wp_region_held_drew (S := fun w' => Fr (fun _ => False) W3 w') (by kernel_rfl) ((Fr.refl _ W3).drew) (fun hS0 => ?_)
              refine anyH_take 0 34 (.agg (tkA tt (.slice A1 n1 c1) (.slice A2 n2 c2) (.slice A3 n3 c3))) rfl rfl (by kernel_rfl) (by kernel_rfl) (by kernel_rfl) (fun _ _ _ h => h) (yieldsIf_load_mid rfl 27 (.tmp 2) rfl w.heap.size 0 rfl (tkA tt (.slice A1 n1 c1) (.slice A2 n2 c2) (.slice A3 n3 c3)).toList _ (fun w'' hS => blk_range (HI.out.2.keep (HF3.out.trans hS (fun _ _ q => q)) (fun q => q))) Try.underlying27 rfl infoTk) hS0 ?_
              (simp only [List.setIfInBounds_toArray, List.set_cons_zero, List.set_cons_succ])
              refine anyH_take 1 35 (.slice (some ⟨bs, os, none⟩) n cs) rfl rfl (by kernel_rfl) (by kernel_rfl) (by kernel_rfl) (fun _ _ _ h => h) (.inl ⟨by rfl, fun w'' hS => by go_simp⟩) hS0 ?_
              (simp only [List.setIfInBounds_toArray, List.set_cons_zero, List.set_cons_succ])
              refine anyH_take 2 36 (.int .i64 (k : Nat)) rfl rfl (by kernel_rfl) (by kernel_rfl) (by kernel_rfl) (fun _ _ _ h => h) (.inl ⟨by rfl, fun w'' hS => by go_simp⟩) hS0 ?_
              (simp only [List.setIfInBounds_toArray, List.set_cons_zero, List.set_cons_succ])
              refine anyH_take 3 37 (.pointer (some ⟨bs, os + k * 4, none⟩)) rfl rfl (by kernel_rfl) (by kernel_rfl) (by kernel_rfl) (fun _ _ _ h => h) (.inl ⟨by rfl, fun w'' hS => by have q0 := HK.out.1; have q1 := HK.out.2.1; go_simp⟩) hS0 ?_
              (simp only [List.setIfInBounds_toArray, List.set_cons_zero, List.set_cons_succ])
              refine anyH_take 4 38 (.pointer (some ⟨bs, os + k * 4, none⟩)) rfl rfl (by kernel_rfl) (by kernel_rfl) (by kernel_rfl) (fun _ _ _ h => h) (.inl ⟨by rfl, fun w'' hS => by go_simp⟩) hS0 ?_
              (simp only [List.setIfInBounds_toArray, List.set_cons_zero, List.set_cons_succ])
              refine anyH_take 5 39 (.int .i64 x.cp) rfl rfl (by kernel_rfl) (by kernel_rfl) (by kernel_rfl) (fun _ _ _ h => h) (.inl ⟨by rfl, fun w'' hS => by have q0 := (HC.out _ (HF3.out.trans hS (fun _ _ q => q))).1; go_simp⟩) hS0 ?_
              (simp only [List.setIfInBounds_toArray, List.set_cons_zero, List.set_cons_succ])
              refine anyH_take 6 40 (.slice (some ⟨bs, os, none⟩) n cs) rfl rfl (by kernel_rfl) (by kernel_rfl) (by kernel_rfl) (fun _ _ _ h => h) (.inl ⟨by rfl, fun w'' hS => by go_simp⟩) hS0 ?_
              (simp only [List.setIfInBounds_toArray, List.set_cons_zero, List.set_cons_succ])
              refine anyH_take 7 41 (.int .i64 (k : Nat)) rfl rfl (by kernel_rfl) (by kernel_rfl) (by kernel_rfl) (fun _ _ _ h => h) (.inl ⟨by rfl, fun w'' hS => by go_simp⟩) hS0 ?_
              (simp only [List.setIfInBounds_toArray, List.set_cons_zero, List.set_cons_succ])
              refine anyH_take 8 42 (.pointer (some ⟨bs, os + k * 4, none⟩)) rfl rfl (by kernel_rfl) (by kernel_rfl) (by kernel_rfl) (fun _ _ _ h => h) (.inl ⟨by rfl, fun w'' hS => by have q0 := HK.out.1; have q1 := HK.out.2.1; go_simp⟩) hS0 ?_
              (simp only [List.setIfInBounds_toArray, List.set_cons_zero, List.set_cons_succ])
              refine anyH_take 9 43 (.pointer (some ⟨bs, os + k * 4 + 1, none⟩)) rfl rfl (by kernel_rfl) (by kernel_rfl) (by kernel_rfl) (fun _ _ _ h => h) (.inl ⟨by rfl, fun w'' hS => by go_simp⟩) hS0 ?_
              (simp only [List.setIfInBounds_toArray, List.set_cons_zero, List.set_cons_succ])
              refine anyH_take 10 44 (.int .i64 x.dy) rfl rfl (by kernel_rfl) (by kernel_rfl) (by kernel_rfl) (fun _ _ _ h => h) (.inl ⟨by rfl, fun w'' hS => by have q0 := (HC.out _ (HF3.out.trans hS (fun _ _ q => q))).2.1; go_simp⟩) hS0 ?_
              (simp only [List.setIfInBounds_toArray, List.set_cons_zero, List.set_cons_succ])
              refine anyH_take 11 45 (.slice (some ⟨bs, os, none⟩) n cs) rfl rfl (by kernel_rfl) (by kernel_rfl) (by kernel_rfl) (fun _ _ _ h => h) (.inl ⟨by rfl, fun w'' hS => by go_simp⟩) hS0 ?_
              (simp only [List.setIfInBounds_toArray, List.set_cons_zero, List.set_cons_succ])
              refine anyH_take 12 46 (.int .i64 (k : Nat)) rfl rfl (by kernel_rfl) (by kernel_rfl) (by kernel_rfl) (fun _ _ _ h => h) (.inl ⟨by rfl, fun w'' hS => by go_simp⟩) hS0 ?_
              (simp only [List.setIfInBounds_toArray, List.set_cons_zero, List.set_cons_succ])
              refine anyH_take 13 47 (.pointer (some ⟨bs, os + k * 4, none⟩)) rfl rfl (by kernel_rfl) (by kernel_rfl) (by kernel_rfl) (fun _ _ _ h => h) (.inl ⟨by rfl, fun w'' hS => by have q0 := HK.out.1; have q1 := HK.out.2.1; go_simp⟩) hS0 ?_
              (simp only [List.setIfInBounds_toArray, List.set_cons_zero, List.set_cons_succ])
              refine anyH_take 14 48 (.pointer (some ⟨bs, os + k * 4 + 2, none⟩)) rfl rfl (by kernel_rfl) (by kernel_rfl) (by kernel_rfl) (fun _ _ _ h => h) (.inl ⟨by rfl, fun w'' hS => by go_simp⟩) hS0 ?_
              (simp only [List.setIfInBounds_toArray, List.set_cons_zero, List.set_cons_succ])
              refine anyH_take 15 49 (.int .i64 x.tw) rfl rfl (by kernel_rfl) (by kernel_rfl) (by kernel_rfl) (fun _ _ _ h => h) (.inl ⟨by rfl, fun w'' hS => by have q0 := (HC.out _ (HF3.out.trans hS (fun _ _ q => q))).2.2.1; go_simp⟩) hS0 ?_
              (simp only [List.setIfInBounds_toArray, List.set_cons_zero, List.set_cons_succ])
              refine anyH_take 16 50 (.slice (some ⟨bs, os, none⟩) n cs) rfl rfl (by kernel_rfl) (by kernel_rfl) (by kernel_rfl) (fun _ _ _ h => h) (.inl ⟨by rfl, fun w'' hS => by go_simp⟩) hS0 ?_
              (simp only [List.setIfInBounds_toArray, List.set_cons_zero, List.set_cons_succ])
              refine anyH_take 17 51 (.int .i64 (k : Nat)) rfl rfl (by kernel_rfl) (by kernel_rfl) (by kernel_rfl) (fun _ _ _ h => h) (.inl ⟨by rfl, fun w'' hS => by go_simp⟩) hS0 ?_
              (simp only [List.setIfInBounds_toArray, List.set_cons_zero, List.set_cons_succ])
              refine anyH_take 18 52 (.pointer (some ⟨bs, os + k * 4, none⟩)) rfl rfl (by kernel_rfl) (by kernel_rfl) (by kernel_rfl) (fun _ _ _ h => h) (.inl ⟨by rfl, fun w'' hS => by have q0 := HK.out.1; have q1 := HK.out.2.1; go_simp⟩) hS0 ?_
              (simp only [List.setIfInBounds_toArray, List.set_cons_zero, List.set_cons_succ])
              refine anyH_take 19 53 (.pointer (some ⟨bs, os + k * 4 + 3, none⟩)) rfl rfl (by kernel_rfl) (by kernel_rfl) (by kernel_rfl) (fun _ _ _ h => h) (.inl ⟨by rfl, fun w'' hS => by go_simp⟩) hS0 ?_
              (simp only [List.setIfInBounds_toArray, List.set_cons_zero, List.set_cons_succ])
              refine anyH_take 20 54 (.int .u64 (x.wi : Nat)) rfl rfl (by kernel_rfl) (by kernel_rfl) (by kernel_rfl) (fun _ _ _ h => h) (.inl ⟨by rfl, fun w'' hS => by have q0 := (HC.out _ (HF3.out.trans hS (fun _ _ q => q))).2.2.2; go_simp⟩) hS0 ?_
              (simp only [List.setIfInBounds_toArray, List.set_cons_zero, List.set_cons_succ])
              refine anyH_alt13 21 25 (by kernel_rfl) ?_ ?_
              · refine wpOp_call 55 rfl rfl (by rfl) (by go_simp) ((HPC.out _ (HF3.out.trans hS0 (fun _ _ q => q))).mono ?_)
                rintro e w4 ⟨v4, rfl, ⟨s7, s8, s9, rfl, o7, o8, o9⟩, f4⟩
                obtain ⟨A7, n7, c7, ev7⟩ : ∃ A n c, s7 = .slice A n c := by obtain ⟨A, c, e, _⟩ := own_slice o7; exact ⟨A, _, c, e⟩
                obtain ⟨A8, n8, c8, ev8⟩ : ∃ A n c, s8 = .slice A n c := by obtain ⟨A, c, e, _⟩ := own_slice o8; exact ⟨A, _, c, e⟩
                obtain ⟨A9, n9, c9, ev9⟩ : ∃ A n c, s9 = .slice A n c := by obtain ⟨A, c, e, _⟩ := own_slice o9; exact ⟨A, _, c, e⟩
                subst ev7 ev8 ev9
                have hS4 : Fr (fun _ => False) W3 w4 := hS0.trans f4 (fun _ _ q => q)
                refine ⟨_, rfl, hS4, ?_⟩
                (simp only [List.setIfInBounds_toArray, List.set_cons_zero, List.set_cons_succ])
                refine anyH_take 22 33 (.tuple #[.agg (tkA R (.slice A7 n7 c7) (.slice A8 n8 c8) (.slice A9 n9 c9)), .int .i64 (E : Nat)]) rfl rfl (by kernel_rfl) (by kernel_rfl) (by kernel_rfl) (fun _ _ _ h => h) (.inl ⟨by rfl, fun w'' hS => by go_simp⟩) hS4 ?_
                (simp only [List.setIfInBounds_toArray, List.set_cons_zero, List.set_cons_succ])
                refine anyH_take 23 56 (.agg (tkA R (.slice A7 n7 c7) (.slice A8 n8 c8) (.slice A9 n9 c9))) rfl rfl (by kernel_rfl) (by kernel_rfl) (by kernel_rfl) (fun _ _ _ h => h) (.inl ⟨by rfl, fun w'' hS => by go_simp⟩) hS4 ?_
                (simp only [List.setIfInBounds_toArray, List.set_cons_zero, List.set_cons_succ])
                refine anyH_take 24 57 (.int .i64 (E : Nat)) rfl rfl (by kernel_rfl) (by kernel_rfl) (by kernel_rfl) (fun _ _ _ h => h) (.inl ⟨by rfl, fun w'' hS => by go_simp⟩) hS4 ?_
                (simp only [List.setIfInBounds_toArray, List.set_cons_zero, List.set_cons_succ])
                have hbz := Blk.new w4 27 zTk
                have hf5 : Fr (fun _ => False) W3 (w4.alloc (.cells zTk 27)) := hS4.alloc _
                have hf6 : Fr (fun _ => False) w4 (w4.alloc (.cells zTk 27)) := (Fr.refl _ w4).alloc _
                have hx5 := fr_cells (F := fun _ => False) (a := W3) (b := w4.heap.size) (.inr hS4.size) (tkA R (.slice A7 n7 c7) (.slice A8 n8 c8) (.slice A9 n9 c9)).toList 0 (w4.alloc (.cells zTk 27)) hf5
                have hx6 := fr_cells (F := fun _ => False) (a := w4) (b := w4.heap.size) (.inr (Nat.le_refl _)) (tkA R (.slice A7 n7 c7) (.slice A8 n8 c8) (.slice A9 n9 c9)).toList 0 (w4.alloc (.cells zTk 27)) hf6
                obtain ⟨W5, hWn⟩ : ∃ W, W = (w4.alloc (.cells zTk 27)).setCells w4.heap.size 0 (tkA R (.slice A7 n7 c7) (.slice A8 n8 c8) (.slice A9 n9 c9)).toList := ⟨_, rfl⟩
                have HZ : Hid (Fr (fun _ => False) W3 W5 ∧ Blk W5 w4.heap.size 27 (tkA R (.slice A7 n7 c7) (.slice A8 n8 c8) (.slice A9 n9 c9)) ∧ RwO W5 w.heap.size 49 6 cpC (.slice A7 n7 c7) R.cps ∧ RwO W5 w.heap.size 62 2 txC (.slice A8 n8 c8) R.txs ∧ RwO W5 w.heap.size 51 4 evC (.slice A9 n9 c9) R.his) := Lib.hid (by
                  have hz : w.heap.size ≤ W3.drew.heap.size := ((HI.out.1.trans (HF3.out.trans hS0 (fun _ _ q => q)) (fun _ _ q => q))).size
                  rw [hWn]
                  exact ⟨hx5, blk_row hbz rfl, (o7.keep0 hx6).base hz, (o8.keep0 hx6).base hz, (o9.keep0 hx6).base hz⟩)
                refine anyH_value 25 7 (.pointer (some ⟨w4.heap.size, 0, none⟩)) (w4.alloc (.cells zTk 27)) (by kernel_rfl) rfl rfl (by rfl) (by go_simp) hf5 ?_
                (simp only [List.setIfInBounds_toArray, List.set_cons_zero, List.set_cons_succ])
                clear hf5 hf6
                refine anyH_skip 26 W5 (by kernel_rfl) rfl rfl (by rfl) (by rw [hWn]; exact run_store_mid 27 (.tmp 7) (.tmp 56) rfl w4.heap.size 0 (tkA R (.slice A7 n7 c7) (.slice A8 n8 c8) (.slice A9 n9 c9)) rfl rfl (blk_there hbz (Nat.le_refl 11)) (infoTk' R _ _ _) (tkA_one R _ _ _ _ _ _ _ _ _)) HZ.out.1 ?_
                refine anyH_take 27 8 (.int .i64 (E : Nat)) rfl rfl (by kernel_rfl) (by kernel_rfl) (by kernel_rfl) (fun _ _ _ h => h) (.inl ⟨by rfl, fun w'' hS => by go_simp⟩) HZ.out.1 ?_
                (simp only [List.setIfInBounds_toArray, List.set_cons_zero, List.set_cons_succ])
                refine wpAnyH_done (by kernel_rfl) ?_ _
                clear hbz hx5 hx6 hWn hS4 hS0 f4 o7 o8 o9
                go_wp2_with fail
                go_meet
                exact ⟨w4.heap.size, A7, A8, A9, n7, c7, n8, c8, n9, c9, rfl, rfl, HZ⟩
              · have hfa : Fr (fun _ => False) W3 (W3.drew.alloc (.cells zTk 27)) := hS0.alloc _
                refine wpOp_value (w' := W3.drew.alloc (.cells zTk 27)) 7 (.pointer (some ⟨W3.drew.heap.size, 0, none⟩)) rfl rfl (by rfl) (by go_simp) ⟨hfa, ?_⟩
                (simp only [List.setIfInBounds_toArray, List.set_cons_zero, List.set_cons_succ])
                refine anyH_enter 21 55 (by kernel_rfl) rfl rfl (by rfl) (by go_simp) ((HPC.out _ (HF3.out.trans hfa (fun _ _ q => q))).mono ?_)
                rintro e w4 ⟨v4, rfl, ⟨s7, s8, s9, rfl, o7, o8, o9⟩, f4⟩
                obtain ⟨A7, n7, c7, ev7⟩ : ∃ A n c, s7 = .slice A n c := by obtain ⟨A, c, e, _⟩ := own_slice o7; exact ⟨A, _, c, e⟩
                obtain ⟨A8, n8, c8, ev8⟩ : ∃ A n c, s8 = .slice A n c := by obtain ⟨A, c, e, _⟩ := own_slice o8; exact ⟨A, _, c, e⟩
                obtain ⟨A9, n9, c9, ev9⟩ : ∃ A n c, s9 = .slice A n c := by obtain ⟨A, c, e, _⟩ := own_slice o9; exact ⟨A, _, c, e⟩
                subst ev7 ev8 ev9
                have hS4 : Fr (fun _ => False) W3 w4 := hfa.trans f4 (fun _ _ q => q)
                refine ⟨_, rfl, hS4, ?_⟩
                (simp only [List.setIfInBounds_toArray, List.set_cons_zero, List.set_cons_succ])
                refine anyH_take 22 33 (.tuple #[.agg (tkA R (.slice A7 n7 c7) (.slice A8 n8 c8) (.slice A9 n9 c9)), .int .i64 (E : Nat)]) rfl rfl (by kernel_rfl) (by kernel_rfl) (by kernel_rfl) (fun _ _ _ h => h) (.inl ⟨by rfl, fun w'' hS => by go_simp⟩) hS4 ?_
                (simp only [List.setIfInBounds_toArray, List.set_cons_zero, List.set_cons_succ])
                refine anyH_take 23 56 (.agg (tkA R (.slice A7 n7 c7) (.slice A8 n8 c8) (.slice A9 n9 c9))) rfl rfl (by kernel_rfl) (by kernel_rfl) (by kernel_rfl) (fun _ _ _ h => h) (.inl ⟨by rfl, fun w'' hS => by go_simp⟩) hS4 ?_
                (simp only [List.setIfInBounds_toArray, List.set_cons_zero, List.set_cons_succ])
                refine anyH_take 24 57 (.int .i64 (E : Nat)) rfl rfl (by kernel_rfl) (by kernel_rfl) (by kernel_rfl) (fun _ _ _ h => h) (.inl ⟨by rfl, fun w'' hS => by go_simp⟩) hS4 ?_
                (simp only [List.setIfInBounds_toArray, List.set_cons_zero, List.set_cons_succ])
                have hbz := (Blk.new W3.drew 27 zTk).keep f4 (fun q => q)
                have hx5 := fr_cells (F := fun _ => False) (a := W3) (b := W3.drew.heap.size) (.inr hS0.size) (tkA R (.slice A7 n7 c7) (.slice A8 n8 c8) (.slice A9 n9 c9)).toList 0 w4 hS4
                have hx6 := fr_cells (F := fun b => b = W3.drew.heap.size) (a := w4) (b := W3.drew.heap.size) (.inl rfl) (tkA R (.slice A7 n7 c7) (.slice A8 n8 c8) (.slice A9 n9 c9)).toList 0 w4 (Fr.refl _ _)
                obtain ⟨W5, hWn⟩ : ∃ W, W = w4.setCells W3.drew.heap.size 0 (tkA R (.slice A7 n7 c7) (.slice A8 n8 c8) (.slice A9 n9 c9)).toList := ⟨_, rfl⟩
                have HZ : Hid (Fr (fun _ => False) W3 W5 ∧ Blk W5 W3.drew.heap.size 27 (tkA R (.slice A7 n7 c7) (.slice A8 n8 c8) (.slice A9 n9 c9)) ∧ RwO W5 w.heap.size 49 6 cpC (.slice A7 n7 c7) R.cps ∧ RwO W5 w.heap.size 62 2 txC (.slice A8 n8 c8) R.txs ∧ RwO W5 w.heap.size 51 4 evC (.slice A9 n9 c9) R.his) := Lib.hid (by
                  have hz : w.heap.size ≤ W3.drew.heap.size := ((HI.out.1.trans (HF3.out.trans hS0 (fun _ _ q => q)) (fun _ _ q => q))).size
                  have hs : (W3.drew.alloc (.cells zTk 27)).heap.size = W3.drew.heap.size + 1 := Array.size_push _
                  have hlt : ∀ b, b = W3.drew.heap.size → b < (W3.drew.alloc (.cells zTk 27)).heap.size := fun b hb => by omega
                  have hz2 : w.heap.size ≤ (W3.drew.alloc (.cells zTk 27)).heap.size := by omega
                  rw [hWn]
                  exact ⟨hx5, blk_row hbz rfl, (o7.keepB hx6 hlt).base hz2, (o8.keepB hx6 hlt).base hz2, (o9.keepB hx6 hlt).base hz2⟩)
                clear hfa
                refine anyH_skip 26 W5 (by kernel_rfl) rfl rfl (by rfl) (by rw [hWn]; exact run_store_mid 27 (.tmp 7) (.tmp 56) rfl W3.drew.heap.size 0 (tkA R (.slice A7 n7 c7) (.slice A8 n8 c8) (.slice A9 n9 c9)) rfl rfl (blk_there hbz (Nat.le_refl 11)) (infoTk' R _ _ _) (tkA_one R _ _ _ _ _ _ _ _ _)) HZ.out.1 ?_
                refine anyH_take 27 8 (.int .i64 (E : Nat)) rfl rfl (by kernel_rfl) (by kernel_rfl) (by kernel_rfl) (fun _ _ _ h => h) (.inl ⟨by rfl, fun w'' hS => by go_simp⟩) HZ.out.1 ?_
                (simp only [List.setIfInBounds_toArray, List.set_cons_zero, List.set_cons_succ])
                refine wpAnyH_done (by kernel_rfl) ?_ _
                clear hbz hx5 hx6 hWn hS4 hS0 f4 o7 o8 o9
                go_wp2_with fail
                go_meet
                exact ⟨W3.drew.heap.size, A7, A8, A9, n7, c7, n8, c8, n9, c9, rfl, rfl, HZ⟩
            obtain ⟨g7, A7, A8, A9, n7, c7, n8, c8, n9, c9, rfl, rfl, HBW5⟩ := hcut
            generalize wc = W5 at *
            go_upto_if 59 with fail
            go_cut [8] from 26 to 94 (fun s8 wx => ∃ (tx : TkD) (A4 A5 A6 : Option Addr) (n4 c4 n5 c5 n6 c6 : Nat), Hid (Fr (fun _ => False) w wx ∧ Blk wx w.heap.size 27 (tkA tx (.slice A4 n4 c4) (.slice A5 n5 c5) (.slice A6 n6 c6)) ∧ Blk wx g6 27 (tkA tt (.slice A1 n1 c1) (.slice A2 n2 c2) (.slice A3 n3 c3)) ∧ TkV wx (.agg (tkA tx (.slice A4 n4 c4) (.slice A5 n5 c5) (.slice A6 n6 c6))) tx ∧ TkV wx (.agg (tkA tt (.slice A1 n1 c1) (.slice A2 n2 c2) (.slice A3 n3 c3))) tt ∧ ∀ W, Fr (fun b => b = w.heap.size) wx W → TkV W (.agg (tkA tx (.slice A4 n4 c4) (.slice A5 n5 c5) (.slice A6 n6 c6))) tx) ∧ Hid (TkOk tx ∧ muchT tx = false ∧ mayT tx = true ∧ tx.cps.length = tt.cps.length ∧ ∀ (i : Nat) (x : CpD), tt.cps[i]? = some x → lastS x.st = true → tx.cps[i]? = some x))
            case first =>
              by_cases hz : E = 0
              · have hz1 : ((E : Nat) : Int) = 0 := by omega
                have hz3 : (((E : Nat) : Int) == 0) = true := by rw [beq_iff_eq]; exact hz1
                have HOK := Lib.hid (HMAY.out hz)
                have HKE := Lib.hid (HKP.out hz)
                have HF5 := HF3.out.trans HBW5.out.1 (fun _ _ q => q)
                have HB2 := Lib.hid (HI.out.2.keep HF5 (fun q => q))
                have HZB := Lib.hid HBW5.out.2.1
                have hfr := HI.out.1.trans HF5 (fun _ _ q => q)
                have hxa := fr_cells (F := fun _ => False) (a := w) (b := w.heap.size) (.inr (Nat.le_refl _)) (tkA R (.slice A7 n7 c7) (.slice A8 n8 c8) (.slice A9 n9 c9)).toList 0 W5 hfr
                have hxb := fr_cells (F := fun b => b = w.heap.size) (a := W5) (b := w.heap.size) (.inl rfl) (tkA R (.slice A7 n7 c7) (.slice A8 n8 c8) (.slice A9 n9 c9)).toList 0 W5 (Fr.refl _ _)
                obtain ⟨WN, hWN⟩ : ∃ W, W = W5.setCells w.heap.size 0 (tkA R (.slice A7 n7 c7) (.slice A8 n8 c8) (.slice A9 n9 c9)).toList := ⟨_, rfl⟩
                have HIN : Hid (Fr (fun _ => False) w WN ∧ Blk WN w.heap.size 27 (tkA R (.slice A7 n7 c7) (.slice A8 n8 c8) (.slice A9 n9 c9))) := Lib.hid (by rw [hWN]; exact ⟨hxa, blk_row HB2.out rfl⟩)
                have HJN : Hid (TkV WN (.agg (tkA R (.slice A7 n7 c7) (.slice A8 n8 c8) (.slice A9 n9 c9))) R ∧ ∀ W, Fr (fun b => b = w.heap.size) WN W → TkV W (.agg (tkA R (.slice A7 n7 c7) (.slice A8 n8 c8) (.slice A9 n9 c9))) R) := Lib.hid (by
                  rw [← hWN] at hxb
                  have hb2 := HIN.out.2
                  refine ⟨⟨_, _, _, rfl, (rwo_off HBW5.out.2.2.1 hxb HB2.out (by decide)).rd cpC_len, (rwo_off HBW5.out.2.2.2.1 hxb HB2.out (by decide)).rd txC_len, (rwo_off HBW5.out.2.2.2.2 hxb HB2.out (by decide)).rd evC_len⟩, fun W f => ⟨_, _, _, rfl, (rwo_off (rwo_off HBW5.out.2.2.1 hxb HB2.out (by decide)) f hb2 (by decide)).rd cpC_len, (rwo_off (rwo_off HBW5.out.2.2.2.1 hxb HB2.out (by decide)) f hb2 (by decide)).rd txC_len, (rwo_off (rwo_off HBW5.out.2.2.2.2 hxb HB2.out (by decide)) f hb2 (by decide)).rd evC_len⟩⟩)
                have HGN : Hid (Blk WN g6 27 (tkA tt (.slice A1 n1 c1) (.slice A2 n2 c2) (.slice A3 n3 c3)) ∧ TkV WN (.agg (tkA tt (.slice A1 n1 c1) (.slice A2 n2 c2) (.slice A3 n3 c3))) tt) := Lib.hid (by
                  rw [← hWN] at hxb
                  refine ⟨HB6.out.2.1.keep ((Fr.mono HBW5.out.1 (fun b _ q => q.elim)).trans hxb (fun b hb q => q)) (fun q => by have h6 : g6 = w.heap.size := q; have := HB6.out.2.2; omega), HJ.out.2.2.2.2 _ ((Fr.mono HF5 (fun b _ q => q.elim)).trans hxb (fun b hb q => q))⟩)
                have HQN := Lib.hid hWN
                clear hWN hfr hxa hxb HF5 hz
                go_wp2_with (first | (refine wpList_load_mid rfl 27 (.tmp 7) rfl g7 0 rfl (tkA R (.slice A7 n7 c7) (.slice A8 n8 c8) (.slice A9 n9 c9)).toList _ (blk_range (HZB.out)) Try.underlying27 rfl infoTk ?_) | (refine wpList_store_mid rfl 27 (.tmp 2) (.tmp 60) rfl w.heap.size 0 (tkA R (.slice A7 n7 c7) (.slice A8 n8 c8) (.slice A9 n9 c9)) rfl rfl (blk_there HB2.out (Nat.le_refl 11)) (infoTk' R _ _ _) (tkA_one R _ _ _ _ _ _ _ _ _) ?_))
                rw [← HQN.out]
                go_meet
                exact ⟨R, A7, A8, A9, n7, c7, n8, c8, n9, c9, Lib.hid ⟨HIN.out.1, HIN.out.2, HGN.out.1, HJN.out.1, HGN.out.2, HJN.out.2⟩, Lib.hid ⟨HOK.out.2.2, HOK.out.2.1, HOK.out.1, HKE.out.1, HKE.out.2⟩⟩
              · have hz1 : ¬ ((E : Nat) : Int) = 0 := by omega
                have hz3 : (((E : Nat) : Int) == 0) = false := by rw [beq_eq_false_iff_ne]; exact hz1
                have HF5 := Lib.hid (HF3.out.trans HBW5.out.1 (fun _ _ q => q))
                clear hz
                go_wp2_with fail
                go_meet
                exact ⟨tt, A1, A2, A3, n1, c1, n2, c2, n3, c3, Lib.hid ⟨HI.out.1.trans HF5.out (fun _ _ q => q), HI.out.2.keep HF5.out (fun q => q), HB6.out.2.1.keep HBW5.out.1 (fun q => q), HJ.out.1.keep0 HF5.out, HJ.out.1.keep0 HF5.out, fun W f => HJ.out.2.2.2.2 _ ((Fr.mono HF5.out (fun b _ q => q.elim)).trans f (fun b hb q => q))⟩, Lib.hid ⟨HJ.out.2.1, HJ.out.2.2.1, HJ.out.2.2.2.1, rfl, fun i x h _ => h⟩⟩
            obtain ⟨tx, A4, A5, A6, n4, c4, n5, c5, n6, c6, HP, HG⟩ := hcut
            generalize wc = W8 at *
            have HR1 := Lib.hid (tkv_n HP.out.2.2.2.2.1)
            have HR4 := Lib.hid (tkv_n HP.out.2.2.2.1)
            obtain rfl : n4 = n1 := by rw [rwv_n HR4.out, rwv_n HR1.out]; exact HG.out.2.2.2.1
            have hx1 : W8.cell? ⟨g6, 3, none⟩ = some (.slice A1 n4 c1) := cp_cell HP.out.2.2.1 3 rfl
            have hx4 : W8.cell? ⟨w.heap.size, 3, none⟩ = some (.slice A4 n4 c4) := cp_cell HP.out.2.1 3 rfl
            clear HPC HMAY HKP HBW5 HB6 HF3
            go_wp2_with fail
            generalize wr = w00 at *
            have HF8 := Lib.hid (Fr.refl (fun _ => False) W8)
            go_loopw [9] (fun x wr2 => ∃ (j : Nat), x = .int .i64 j ∧ j ≤ n4 ∧ Hid (Fr (fun _ => False) W8 wr2)) (fun x _ => n4 - (intOf x).toNat)
            case atStart => exact ⟨0, rfl, Nat.zero_le _, HF8⟩
            case round =>
              clear HF8 hx1 hx4
              obtain ⟨j, rfl, hj, HF8⟩ := hrel
              have hx1 : wr.cell? ⟨g6, 3, none⟩ = some (.slice A1 n4 c1) := cp_cell (HP.out.2.2.1.keep HF8.out (fun q => q)) 3 rfl
              have hnb : n4 ≤ 20 := by rw [rwv_n HR4.out]; exact (much_small HG.out.2.1).1
              by_cases hlj : j < n4
              · obtain ⟨x1, hx⟩ : ∃ x, tt.cps[j]? = some x := ⟨_, List.getElem?_eq_getElem (by rw [← rwv_n HR1.out]; exact hlj)⟩
                obtain ⟨y1, hy⟩ : ∃ y, tx.cps[j]? = some y := ⟨_, List.getElem?_eq_getElem (by rw [← rwv_n HR4.out]; exact hlj)⟩
                obtain ⟨b1, o1, cc1, e1, hc1⟩ := HR1.out.cell hx
                obtain ⟨b2, o2, cc2, e2, hc2⟩ := HR4.out.cell hy
                injection e1 with e1 e1n e1c
                injection e2 with e2 e2n e2c
                subst e1 e2
                clear hx1
                have hx1 : wr.cell? ⟨g6, 3, none⟩ = some (.slice (some ⟨b1, o1, none⟩) n4 c1) := cp_cell (HP.out.2.2.1.keep HF8.out (fun q => q)) 3 rfl
                have HX1 : Hid (∀ W, Fr (fun _ => False) W8 W → W.cell? ⟨g6, 3, none⟩ = some (.slice (some ⟨b1, o1, none⟩) n4 c1)) := Lib.hid (fun W f => cp_cell (HP.out.2.2.1.keep f (fun q => q)) 3 rfl)
                have HX2 : Hid (∀ W, Fr (fun _ => False) W8 W → W.cell? ⟨w.heap.size, 3, none⟩ = some (.slice (some ⟨b2, o2, none⟩) n4 c4)) := Lib.hid (fun W f => cp_cell (HP.out.2.1.keep f (fun q => q)) 3 rfl)
                have HY1 : Hid (∀ W, Fr (fun _ => False) W8 W → W.rangeAt b1 (o1 + j * 6) (cpC x1)) := Lib.hid (fun W f i u hu => by have h5 := hc1 i u hu; exact (f.cell (World.block_lt_of_cell? W8 _ h5) (fun q => q)).trans h5)
                have HY2 : Hid (∀ W, Fr (fun _ => False) W8 W → W.rangeAt b2 (o2 + j * 6) (cpC y1)) := Lib.hid (fun W f i u hu => by have h5 := hc2 i u hu; exact (f.cell (World.block_lt_of_cell? W8 _ h5) (fun q => q)).trans h5)
                have HST : Hid (∀ W, Fr (fun _ => False) W8 W → W.cell? ⟨b1, o1 + j * 6 + 3, none⟩ = some (.int .i64 x1.st)) := Lib.hid (fun W f => HY1.out W f 3 _ rfl)
                have hk0 : (0 : Int) ≤ (j : Int) := by omega
                have hkm : (j : Int) < (n4 : Int) := by omega
                have HK := Lib.hid (And.intro hk0 hkm)
                have HLS := Lib.hid (fun W => rlast_any x1.st W)
                have HXY := Lib.hid (And.intro hx (And.intro hy (HG.out.2.2.2.2 j x1 hx)))
                clear hx hy hc1 hc2 e1n e1c e2n e2c hlj
                cases hl : lastS x1.st with
                | false =>
                  rw [hl] at HLS
                  clear hl
                  go_upto_region 15 with fail
                  refine wp_region_held_drew (S := fun w' => Fr (fun _ => False) wr w') (by kernel_rfl) ((Fr.refl _ wr).drew) (fun hS0 => ?_)
                  refine anyH_take 0 75 (.pointer (some ⟨g6, 3, none⟩)) rfl rfl (by kernel_rfl) (by kernel_rfl) (by kernel_rfl) (fun _ _ _ h => h) (.inl ⟨by rfl, fun w'' hS => by go_simp⟩) hS0 ?_
                  (simp only [List.setIfInBounds_toArray, List.set_cons_zero, List.set_cons_succ])
                  refine anyH_take 1 76 (.slice (some ⟨b1, o1, none⟩) n4 c1) rfl rfl (by kernel_rfl) (by kernel_rfl) (by kernel_rfl) (fun _ _ _ h => h) (.inl ⟨by rfl, fun w'' hS => by have q0 := HX1.out _ (HF8.out.trans hS (fun _ _ q => q)); go_simp⟩) hS0 ?_
                  (simp only [List.setIfInBounds_toArray, List.set_cons_zero, List.set_cons_succ])
                  refine anyH_take 2 77 (.int .i64 (j : Nat)) rfl rfl (by kernel_rfl) (by kernel_rfl) (by kernel_rfl) (fun _ _ _ h => h) (.inl ⟨by rfl, fun w'' hS => by go_simp⟩) hS0 ?_
                  (simp only [List.setIfInBounds_toArray, List.set_cons_zero, List.set_cons_succ])
                  refine anyH_take 3 78 (.pointer (some ⟨b1, o1 + j * 6, none⟩)) rfl rfl (by kernel_rfl) (by kernel_rfl) (by kernel_rfl) (fun _ _ _ h => h) (.inl ⟨by rfl, fun w'' hS => by have q0 := HK.out.1; have q1 := HK.out.2; go_simp⟩) hS0 ?_
                  (simp only [List.setIfInBounds_toArray, List.set_cons_zero, List.set_cons_succ])
                  refine anyH_take 4 79 (.pointer (some ⟨b1, o1 + j * 6 + 3, none⟩)) rfl rfl (by kernel_rfl) (by kernel_rfl) (by kernel_rfl) (fun _ _ _ h => h) (.inl ⟨by rfl, fun w'' hS => by go_simp⟩) hS0 ?_
                  (simp only [List.setIfInBounds_toArray, List.set_cons_zero, List.set_cons_succ])
                  refine anyH_take 5 80 (.int .i64 x1.st) rfl rfl (by kernel_rfl) (by kernel_rfl) (by kernel_rfl) (fun _ _ _ h => h) (.inl ⟨by rfl, fun w'' hS => by have q0 := HST.out _ (HF8.out.trans hS (fun _ _ q => q)); go_simp⟩) hS0 ?_
                  (simp only [List.setIfInBounds_toArray, List.set_cons_zero, List.set_cons_succ])
                  refine anyH_one 6 81 (.bool false) (by kernel_rfl) (tame_call 81 rfl rfl (by rfl) (fun w'' hS => by go_simp) (fun w'' hS => ((HLS.out w'').mono fun e w3 he => ⟨he.1, hS.trans he.2 (fun _ _ q => q)⟩))) hS0 (fun wq0 hS0 => ?_)
                  (simp only [List.setIfInBounds_toArray, List.set_cons_zero, List.set_cons_succ])
                  refine anyH_take 7 82 (.bool false) rfl rfl (by kernel_rfl) (by kernel_rfl) (by kernel_rfl) (fun _ _ _ h => h) (.inl ⟨by rfl, fun w'' hS => by go_simp⟩) hS0 ?_
                  (simp only [List.setIfInBounds_toArray, List.set_cons_zero, List.set_cons_succ])
                  refine anyH_take 8 83 undef rfl rfl (by kernel_rfl) (by kernel_rfl) (by kernel_rfl) (fun _ _ _ h => h) (.inr ⟨by rfl, rfl⟩) hS0 ?_
                  (simp only [List.setIfInBounds_toArray, List.set_cons_zero, List.set_cons_succ])
                  refine anyH_take 9 84 undef rfl rfl (by kernel_rfl) (by kernel_rfl) (by kernel_rfl) (fun _ _ _ h => h) (.inr ⟨by rfl, rfl⟩) hS0 ?_
                  (simp only [List.setIfInBounds_toArray, List.set_cons_zero, List.set_cons_succ])
                  refine anyH_take 10 85 undef rfl rfl (by kernel_rfl) (by kernel_rfl) (by kernel_rfl) (fun _ _ _ h => h) (.inr ⟨by rfl, rfl⟩) hS0 ?_
                  (simp only [List.setIfInBounds_toArray, List.set_cons_zero, List.set_cons_succ])
                  refine anyH_take 11 86 undef rfl rfl (by kernel_rfl) (by kernel_rfl) (by kernel_rfl) (fun _ _ _ h => h) (.inr ⟨by rfl, rfl⟩) hS0 ?_
                  (simp only [List.setIfInBounds_toArray, List.set_cons_zero, List.set_cons_succ])
                  refine anyH_take 12 87 undef rfl rfl (by kernel_rfl) (by kernel_rfl) (by kernel_rfl) (fun _ _ _ h => h) (.inr ⟨by rfl, rfl⟩) hS0 ?_
                  (simp only [List.setIfInBounds_toArray, List.set_cons_zero, List.set_cons_succ])
                  refine anyH_take 13 88 undef rfl rfl (by kernel_rfl) (by kernel_rfl) (by kernel_rfl) (fun _ _ _ h => h) (.inr ⟨by rfl, rfl⟩) hS0 ?_
                  (simp only [List.setIfInBounds_toArray, List.set_cons_zero, List.set_cons_succ])
                  refine anyH_take 14 89 undef rfl rfl (by kernel_rfl) (by kernel_rfl) (by kernel_rfl) (fun _ _ _ h => h) (.inr ⟨by rfl, rfl⟩) hS0 ?_
                  (simp only [List.setIfInBounds_toArray, List.set_cons_zero, List.set_cons_succ])
                  refine anyH_take 15 90 undef rfl rfl (by kernel_rfl) (by kernel_rfl) (by kernel_rfl) (fun _ _ _ h => h) (.inr ⟨by rfl, rfl⟩) hS0 ?_
                  (simp only [List.setIfInBounds_toArray, List.set_cons_zero, List.set_cons_succ])
                  refine anyH_take 16 91 undef rfl rfl (by kernel_rfl) (by kernel_rfl) (by kernel_rfl) (fun _ _ _ h => h) (.inr ⟨by rfl, rfl⟩) hS0 ?_
                  (simp only [List.setIfInBounds_toArray, List.set_cons_zero, List.set_cons_succ])
                  refine anyH_take 17 92 undef rfl rfl (by kernel_rfl) (by kernel_rfl) (by kernel_rfl) (fun _ _ _ h => h) (.inr ⟨by rfl, rfl⟩) hS0 ?_
                  (simp only [List.setIfInBounds_toArray, List.set_cons_zero, List.set_cons_succ])
                  refine anyH_take 18 93 undef rfl rfl (by kernel_rfl) (by kernel_rfl) (by kernel_rfl) (fun _ _ _ h => h) (.inr ⟨by rfl, rfl⟩) hS0 ?_
                  (simp only [List.setIfInBounds_toArray, List.set_cons_zero, List.set_cons_succ])
                  refine anyH_take 19 94 (.bool false) rfl rfl (by kernel_rfl) (by kernel_rfl) (by kernel_rfl) (fun _ _ _ h => h) (.inl ⟨by rfl, fun w'' hS => by go_simp⟩) hS0 ?_
                  (simp only [List.setIfInBounds_toArray, List.set_cons_zero, List.set_cons_succ])
                  refine wpAnyH_done (by kernel_rfl) ?_ _
                  have HF9 := Lib.hid (HF8.out.trans hS0 (fun _ _ q => q))
                  clear hS0
                  go_wp2_with fail
                  refine ⟨⟨j + 1, by go_num, by have := HK.out; omega, HF9⟩, ?_⟩
                  simp [intOf]
                  have := HK.out
                  omega
                | true =>
                  have HXY := Lib.hid (And.intro HXY.out.1 (And.intro HXY.out.2.1 (HXY.out.2.2 hl)))
                  rw [hl] at HLS
                  clear hl
                  obtain rfl : x1 = y1 := by have := HXY.out.2.2; rw [HXY.out.2.1] at this; exact (Option.some.inj this).symm
                  go_upto_region 15 with fail
                  refine wp_region_held_drew (S := fun w' => Fr (fun _ => False) wr w') (by kernel_rfl) ((Fr.refl _ wr).drew) (fun hS0 => ?_)
                  refine anyH_take 0 75 (.pointer (some ⟨g6, 3, none⟩)) rfl rfl (by kernel_rfl) (by kernel_rfl) (by kernel_rfl) (fun _ _ _ h => h) (.inl ⟨by rfl, fun w'' hS => by go_simp⟩) hS0 ?_
                  (simp only [List.setIfInBounds_toArray, List.set_cons_zero, List.set_cons_succ])
                  refine anyH_take 1 76 (.slice (some ⟨b1, o1, none⟩) n4 c1) rfl rfl (by kernel_rfl) (by kernel_rfl) (by kernel_rfl) (fun _ _ _ h => h) (.inl ⟨by rfl, fun w'' hS => by have q0 := HX1.out _ (HF8.out.trans hS (fun _ _ q => q)); go_simp⟩) hS0 ?_
                  (simp only [List.setIfInBounds_toArray, List.set_cons_zero, List.set_cons_succ])
                  refine anyH_take 2 77 (.int .i64 (j : Nat)) rfl rfl (by kernel_rfl) (by kernel_rfl) (by kernel_rfl) (fun _ _ _ h => h) (.inl ⟨by rfl, fun w'' hS => by go_simp⟩) hS0 ?_
                  (simp only [List.setIfInBounds_toArray, List.set_cons_zero, List.set_cons_succ])
                  refine anyH_take 3 78 (.pointer (some ⟨b1, o1 + j * 6, none⟩)) rfl rfl (by kernel_rfl) (by kernel_rfl) (by kernel_rfl) (fun _ _ _ h => h) (.inl ⟨by rfl, fun w'' hS => by have q0 := HK.out.1; have q1 := HK.out.2; go_simp⟩) hS0 ?_
                  (simp only [List.setIfInBounds_toArray, List.set_cons_zero, List.set_cons_succ])
                  refine anyH_take 4 79 (.pointer (some ⟨b1, o1 + j * 6 + 3, none⟩)) rfl rfl (by kernel_rfl) (by kernel_rfl) (by kernel_rfl) (fun _ _ _ h => h) (.inl ⟨by rfl, fun w'' hS => by go_simp⟩) hS0 ?_
                  (simp only [List.setIfInBounds_toArray, List.set_cons_zero, List.set_cons_succ])
                  refine anyH_take 5 80 (.int .i64 x1.st) rfl rfl (by kernel_rfl) (by kernel_rfl) (by kernel_rfl) (fun _ _ _ h => h) (.inl ⟨by rfl, fun w'' hS => by have q0 := HST.out _ (HF8.out.trans hS (fun _ _ q => q)); go_simp⟩) hS0 ?_
                  (simp only [List.setIfInBounds_toArray, List.set_cons_zero, List.set_cons_succ])
                  refine anyH_one 6 81 (.bool true) (by kernel_rfl) (tame_call 81 rfl rfl (by rfl) (fun w'' hS => by go_simp) (fun w'' hS => ((HLS.out w'').mono fun e w3 he => ⟨he.1, hS.trans he.2 (fun _ _ q => q)⟩))) hS0 (fun wq0 hS0 => ?_)
                  (simp only [List.setIfInBounds_toArray, List.set_cons_zero, List.set_cons_succ])
                  refine anyH_take 7 82 (.bool true) rfl rfl (by kernel_rfl) (by kernel_rfl) (by kernel_rfl) (fun _ _ _ h => h) (.inl ⟨by rfl, fun w'' hS => by go_simp⟩) hS0 ?_
                  (simp only [List.setIfInBounds_toArray, List.set_cons_zero, List.set_cons_succ])
                  refine anyH_take 8 83 (.pointer (some ⟨w.heap.size, 3, none⟩)) rfl rfl (by kernel_rfl) (by kernel_rfl) (by kernel_rfl) (fun _ _ _ h => h) (.inl ⟨by rfl, fun w'' hS => by go_simp⟩) hS0 ?_
                  (simp only [List.setIfInBounds_toArray, List.set_cons_zero, List.set_cons_succ])
                  refine anyH_take 9 84 (.slice (some ⟨b2, o2, none⟩) n4 c4) rfl rfl (by kernel_rfl) (by kernel_rfl) (by kernel_rfl) (fun _ _ _ h => h) (.inl ⟨by rfl, fun w'' hS => by have q0 := HX2.out _ (HF8.out.trans hS (fun _ _ q => q)); go_simp⟩) hS0 ?_
                  (simp only [List.setIfInBounds_toArray, List.set_cons_zero, List.set_cons_succ])
                  refine anyH_take 10 85 (.int .i64 (j : Nat)) rfl rfl (by kernel_rfl) (by kernel_rfl) (by kernel_rfl) (fun _ _ _ h => h) (.inl ⟨by rfl, fun w'' hS => by go_simp⟩) hS0 ?_
                  (simp only [List.setIfInBounds_toArray, List.set_cons_zero, List.set_cons_succ])
                  refine anyH_take 11 86 (.pointer (some ⟨b2, o2 + j * 6, none⟩)) rfl rfl (by kernel_rfl) (by kernel_rfl) (by kernel_rfl) (fun _ _ _ h => h) (.inl ⟨by rfl, fun w'' hS => by have q0 := HK.out.1; have q1 := HK.out.2; go_simp⟩) hS0 ?_
                  (simp only [List.setIfInBounds_toArray, List.set_cons_zero, List.set_cons_succ])
                  refine anyH_take 12 87 (.agg (cpC x1).toArray) rfl rfl (by kernel_rfl) (by kernel_rfl) (by kernel_rfl) (fun _ _ _ h => h) (yieldsIf_load_mid (by rfl) 49 (.tmp 86) rfl b2 (o2 + j * 6) rfl (cpC x1) _ (fun w'' hS => HY2.out _ (HF8.out.trans hS (fun _ _ q => q))) Try.underlying49 rfl (info_size infoCp)) hS0 ?_
                  (simp only [List.setIfInBounds_toArray, List.set_cons_zero, List.set_cons_succ])
                  refine anyH_take 13 88 (.pointer (some ⟨g6, 3, none⟩)) rfl rfl (by kernel_rfl) (by kernel_rfl) (by kernel_rfl) (fun _ _ _ h => h) (.inl ⟨by rfl, fun w'' hS => by go_simp⟩) hS0 ?_
                  (simp only [List.setIfInBounds_toArray, List.set_cons_zero, List.set_cons_succ])
                  refine anyH_take 14 89 (.slice (some ⟨b1, o1, none⟩) n4 c1) rfl rfl (by kernel_rfl) (by kernel_rfl) (by kernel_rfl) (fun _ _ _ h => h) (.inl ⟨by rfl, fun w'' hS => by have q0 := HX1.out _ (HF8.out.trans hS (fun _ _ q => q)); go_simp⟩) hS0 ?_
                  (simp only [List.setIfInBounds_toArray, List.set_cons_zero, List.set_cons_succ])
                  refine anyH_take 15 90 (.int .i64 (j : Nat)) rfl rfl (by kernel_rfl) (by kernel_rfl) (by kernel_rfl) (fun _ _ _ h => h) (.inl ⟨by rfl, fun w'' hS => by go_simp⟩) hS0 ?_
                  (simp only [List.setIfInBounds_toArray, List.set_cons_zero, List.set_cons_succ])
                  refine anyH_take 16 91 (.pointer (some ⟨b1, o1 + j * 6, none⟩)) rfl rfl (by kernel_rfl) (by kernel_rfl) (by kernel_rfl) (fun _ _ _ h => h) (.inl ⟨by rfl, fun w'' hS => by have q0 := HK.out.1; have q1 := HK.out.2; go_simp⟩) hS0 ?_
                  (simp only [List.setIfInBounds_toArray, List.set_cons_zero, List.set_cons_succ])
                  refine anyH_take 17 92 (.agg (cpC x1).toArray) rfl rfl (by kernel_rfl) (by kernel_rfl) (by kernel_rfl) (fun _ _ _ h => h) (yieldsIf_load_mid (by rfl) 49 (.tmp 91) rfl b1 (o1 + j * 6) rfl (cpC x1) _ (fun w'' hS => HY1.out _ (HF8.out.trans hS (fun _ _ q => q))) Try.underlying49 rfl (info_size infoCp)) hS0 ?_
                  (simp only [List.setIfInBounds_toArray, List.set_cons_zero, List.set_cons_succ])
                  refine anyH_take 18 93 (.bool false) rfl rfl (by kernel_rfl) (by kernel_rfl) (by kernel_rfl) (fun _ _ _ h => h) (.inl ⟨by rfl, fun w'' hS => by go_simp⟩) hS0 ?_
                  (simp only [List.setIfInBounds_toArray, List.set_cons_zero, List.set_cons_succ])
                  refine anyH_take 19 94 (.bool false) rfl rfl (by kernel_rfl) (by kernel_rfl) (by kernel_rfl) (fun _ _ _ h => h) (.inl ⟨by rfl, fun w'' hS => by go_simp⟩) hS0 ?_
                  (simp only [List.setIfInBounds_toArray, List.set_cons_zero, List.set_cons_succ])
                  refine wpAnyH_done (by kernel_rfl) ?_ _
                  have HF9 := Lib.hid (HF8.out.trans hS0 (fun _ _ q => q))
                  clear hS0
                  go_wp2_with fail
                  refine ⟨⟨j + 1, by go_num, by have := HK.out; omega, HF9⟩, ?_⟩
                  simp [intOf]
                  have := HK.out
                  omega
              · obtain rfl : j = n4 := by omega
                have hkk : ¬ (j : Int) < (j : Int) := by omega
                have hklt := HK.out.2.2
                have HIN : Hid (Fr (fun _ => False) w wr ∧ Blk wr w.heap.size 27 (tkA tx (.slice A4 j c4) (.slice A5 n5 c5) (.slice A6 n6 c6))) := Lib.hid ⟨HP.out.1.trans HF8.out (fun _ _ q => q), HP.out.2.1.keep HF8.out (fun q => q)⟩
                have HJN : Hid (TkV wr (.agg (tkA tx (.slice A4 j c4) (.slice A5 n5 c5) (.slice A6 n6 c6))) tx ∧ TkOk tx ∧ muchT tx = false ∧ mayT tx = true ∧ ∀ W, Fr (fun b => b = w.heap.size) wr W → TkV W (.agg (tkA tx (.slice A4 j c4) (.slice A5 n5 c5) (.slice A6 n6 c6))) tx) := Lib.hid ⟨HP.out.2.2.2.1.keep0 HF8.out, HG.out.1, HG.out.2.1, HG.out.2.2.1, fun W f => HP.out.2.2.2.2.2 W ((Fr.mono HF8.out (fun b _ q => q.elim)).trans f (fun b hb q => q))⟩
                clear hlj hj
                go_wp2_with fail
                refine ⟨⟨k + 1, tx, A4, A5, A6, j, c4, n5, c5, n6, c6, by go_num, by have := HK.out.2.2; omega, HIN, HJN⟩, ?_⟩
                simp [intOf]
                omega
          · obtain rfl : k = n := by omega
            have hkk : ¬ (k : Int) < (k : Int) := by omega
            have HR1 := Lib.hid (tkv_n HJ.out.1)
            have HR3 := Lib.hid (tkv_e HJ.out.1)
            generalize wr = W9 at *
            clear hlt hk hn70
            go_wp2_with fail
            have HF3 := Lib.hid (Fr.refl (fun _ => False) W9)
            have hx1 := hkk
            go_loopw [10] (fun x wr => ∃ (j : Nat), x = .int .i64 j ∧ j ≤ n1 ∧ Hid (Fr (fun _ => False) W9 wr)) (fun x _ => n1 - (intOf x).toNat)
            case atStart => exact ⟨0, rfl, Nat.zero_le _, HF3⟩
            case round =>
              clear HF3 hx1
              obtain ⟨j, rfl, hj, HF3⟩ := hrel
              have hx1 : wr.cell? ⟨w.heap.size, 3, none⟩ = some (.slice A1 n1 c1) := cp_cell (HI.out.2.keep HF3.out (fun q => q)) 3 rfl
              by_cases hlj : j < n1
              · have hj0 : (0 : Int) ≤ (j : Int) := by omega
                have hjm : (j : Int) < (n1 : Int) := by omega
                have HKJ := Lib.hid (And.intro hj0 hjm)
                have HST := Lib.hid (stP_start (t := tt) (k := j) (by rw [← rwv_n HR1.out]; exact hlj))
                clear hlj
                go_wp2_with fail
                generalize wr = w01 at *
                clear hx1 hj0 hjm
                go_loopw [11, 12] (fun x y wr => ∃ (i : Nat), y = .int .i64 i ∧ i ≤ n3 ∧ Hid (x = .int .i64 (if lastS (stP tt j i) = true then 1 else 0)) ∧ Hid (Fr (fun _ => False) W9 wr)) (fun _ y _ => n3 - (intOf y).toNat)
                case atStart => exact ⟨0, rfl, Nat.zero_le _, Lib.hid (by rw [HST.out]; rfl), HF3⟩
                case round =>
                  obtain ⟨i, rfl, hi, HX11, HF4⟩ := hrel
                  have hx3 : wr.cell? ⟨w.heap.size, 10, none⟩ = some (.slice A3 n3 c3) := cp_cell (HI.out.2.keep HF4.out (fun q => q)) 10 rfl
                  have hnb3 : n3 ≤ 100 := by rw [rwv_n HR3.out]; exact (much_small HJ.out.2.2.1).2.2.1
                  have hnb1 : n1 ≤ 20 := by rw [rwv_n HR1.out]; exact (much_small HJ.out.2.2.1).1
                  have hjn : (j : Int) < (n1 : Int) := by have := HKJ.out; omega
                  by_cases hli : i < n3
                  · obtain ⟨x1, hx⟩ : ∃ x, tt.his[i]? = some x := ⟨_, List.getElem?_eq_getElem (by rw [← rwv_n HR3.out]; exact hli)⟩
                    obtain ⟨b3, o3, cc3, e3, hc3⟩ := HR3.out.cell hx
                    injection e3 with e3 e3n e3c
                    subst e3
                    have HXE := Lib.hid hx
                    have hy1 : wr.cell? ⟨b3, o3 + i * 4 + 1, none⟩ = some (.int .i64 x1.cp) := (HF4.out.cell (World.block_lt_of_cell? W9 _ (hc3 1 _ rfl)) (fun q => q)).trans (hc3 1 _ rfl)
                    have hy3 : wr.cell? ⟨b3, o3 + i * 4 + 3, none⟩ = some (.int .i64 x1.tw) := (HF4.out.cell (World.block_lt_of_cell? W9 _ (hc3 3 _ rfl)) (fun q => q)).trans (hc3 3 _ rfl)
                    have hi0 : (0 : Int) ≤ (i : Int) := by omega
                    have him : (i : Int) < (n3 : Int) := by omega
                    have HKI := Lib.hid (And.intro hi0 him)
                    clear hx hc3 e3n e3c hli
                    by_cases hcp : x1.cp = (j : Int) + 1
                    · have hcp2 : x1.cp = (j : Int) + 1 := hcp
                      obtain ⟨hl0, hl1⟩ := stP_same HJ.out.2.2.2.1 HXE.out hcp2
                      have hneq : ¬ x1.cp ≠ (j : Int) + 1 := fun h => h hcp2
                      rw [hl0] at HX11
                      have HLS := Lib.hid (fun W => rlast_any x1.tw W)
                      have HS1 := Lib.hid hl1
                      clear hl0 hl1 hcp
                      obtain rfl := HX11.out
                      go_wp2_with fail
                      refine (HLS.out _).mono ?_
                      rintro e wl ⟨rfl, fl⟩
                      have HFL := Lib.hid (HF4.out.trans fl (fun _ _ q => q))
                      clear fl
                      cases hl : lastS x1.tw with
                      | true =>
                        go_wp2_with fail
                        refine ⟨⟨i + 1, by go_num, by have := HKI.out; omega, Lib.hid (by rw [HS1.out, hl]; rfl), HFL⟩, ?_⟩
                        simp [intOf]
                        have := HKI.out
                        omega
                      | false =>
                        go_wp2_with fail
                        refine ⟨⟨i + 1, by go_num, by have := HKI.out; omega, Lib.hid (by rw [HS1.out, hl]; rfl), HFL⟩, ?_⟩
                        simp [intOf]
                        have := HKI.out
                        omega
                    · have hs0 := stP_other HJ.out.2.2.2.1 HXE.out (k := j) hcp
                      have HS1 := Lib.hid hs0
                      clear hs0
                      go_wp2_with fail
                      refine ⟨⟨i + 1, by go_num, by have := HKI.out; omega, Lib.hid (by rw [HS1.out]; exact HX11.out), HF4⟩, ?_⟩
                      simp [intOf]
                      have := HKI.out
                      omega
                  · obtain rfl : i = n3 := by omega
                    have hii : ¬ (i : Int) < (i : Int) := by omega
                    obtain ⟨x1, hx⟩ : ∃ x, tt.cps[j]? = some x := ⟨_, List.getElem?_eq_getElem (by have := HKJ.out; rw [← rwv_n HR1.out]; omega)⟩
                    obtain ⟨b1, o1, cc1, e1, hc1⟩ := HR1.out.cell hx
                    injection e1 with e1 e1n e1c
                    subst e1
                    have hy3 : wr.cell? ⟨b1, o1 + j * 6 + 3, none⟩ = some (.int .i64 x1.st) := (HF4.out.cell (World.block_lt_of_cell? W9 _ (hc1 3 _ rfl)) (fun q => q)).trans (hc1 3 _ rfl)
                    have hx1 : wr.cell? ⟨w.heap.size, 3, none⟩ = some (.slice (some ⟨b1, o1, none⟩) n1 c1) := cp_cell (HI.out.2.keep HF4.out (fun q => q)) 3 rfl
                    have HLS := Lib.hid (fun W => rlast_any x1.st W)
                    have he : stP tt j i = x1.st := by rw [rwv_n HR3.out]; exact stP_end HJ.out.2.2.2.1 hx
                    rw [he] at HX11
                    have hj0 : (0 : Int) ≤ (j : Int) := by omega
                    clear hx hc1 e1n e1c hli he hi
                    cases hl : lastS x1.st with
                    | true =>
                      rw [hl] at HX11 HLS
                      obtain rfl := HX11.out
                      clear hl
                      go_wp2_with fail
                      refine (HLS.out _).mono ?_
                      rintro e wl ⟨rfl, fl⟩
                      have HFL := Lib.hid (HF4.out.trans fl (fun _ _ q => q))
                      clear fl
                      go_wp2_with fail
                      refine ⟨⟨j + 1, by go_num, by have := HKJ.out; omega, HFL⟩, ?_⟩
                      simp [intOf]
                      have := HKJ.out
                      omega
                    | false =>
                      rw [hl] at HX11 HLS
                      obtain rfl := HX11.out
                      clear hl
                      go_wp2_with fail
                      refine (HLS.out _).mono ?_
                      rintro e wl ⟨rfl, fl⟩
                      have HFL := Lib.hid (HF4.out.trans fl (fun _ _ q => q))
                      clear fl
                      go_wp2_with fail
                      refine ⟨⟨j + 1, by go_num, by have := HKJ.out; omega, HFL⟩, ?_⟩
                      simp [intOf]
                      have := HKJ.out
                      omega
              · obtain rfl : j = n1 := by omega
                have hjj : ¬ (j : Int) < (j : Int) := by omega
                have HFX := Lib.hid (HI.out.1.trans HF3.out (fun _ _ q => q))
                clear hlj hj
                go_wp2_with fail
                refine (HKN.out _).mono ?_
                rintro e wk ⟨rfl, fk⟩
                have HFK := Lib.hid (HFX.out.trans fk (fun _ _ q => q))
                clear fk
                go_wp2_with fail
                go_ret
                exact ⟨rfl, HFK.out⟩
end Go.Proofs.Ytmopkfjnjbimnaa
