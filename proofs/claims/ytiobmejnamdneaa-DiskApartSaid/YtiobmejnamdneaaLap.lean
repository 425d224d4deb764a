/- The law DiskApart. -/
import Derived.Test.YtiobmejnamdneaaAp2
import Derived.Test.YtiobmejnamdneaaAcu
namespace Go.Proofs.Ytiobmejnamdneaa
open Go.RowKit Go.Maps

/-- What the law's last loop reads of both documents' disks at a place. -/
theorem ref_first {w : World} {g : Nat} {v : Value} {vs : List Value} {r : RD} (h : RefW w g v vs r) {i n : Nat} {ss : List (List UInt8)} (hi : r.V[i]? = some ss) (hn : r.V.length = n) :
    ∃ RB c b off m ce s, ss.getD 0 [] = s ∧ s.length = 128 ∧ (ss.getD (ss.length - 1) []).length = 128 ∧ 0 < m ∧ ∀ w', Fr (fun _ => False) w w' → w'.cell? ⟨g, 0, none⟩ = some (.slice (some ⟨RB, 0, none⟩) n c) ∧ w'.cell? ⟨RB, i, none⟩ = some (.slice (some ⟨b, off, none⟩) m ce) ∧ w'.rangeAt b off (cellsB s) := by
  have hin : i < r.V.length := (List.getElem?_eq_some_iff.1 hi).1
  obtain ⟨RB, c, cur, hv, hb, hnc, hcm, hcs, htk⟩ := h.form (by omega)
  obtain ⟨x, hx, hrow, hne, hall⟩ := h.at_ hi
  obtain ⟨A, ce, hxe, hm1, hm2, h3⟩ := secV_row hrow hall
  have hm0 : 0 < ss.length := List.length_pos_iff.2 hne
  obtain ⟨b, off, rfl, hsec⟩ := h3 hm0
  obtain ⟨s, hs⟩ : ∃ s, ss[0]? = some s := ⟨_, List.getElem?_eq_getElem hm0⟩
  obtain ⟨t, ht⟩ : ∃ t, ss[ss.length - 1]? = some t := ⟨_, List.getElem?_eq_getElem (by omega)⟩
  obtain ⟨hsl, hsr⟩ := hsec 0 s hs
  have cg : w.cell? ⟨g, 0, none⟩ = some v := (h.blk.cell 0).trans rfl
  have cx := row_at hb htk hx
  rw [hv, hn] at cg
  rw [hxe] at cx
  refine ⟨RB, c, b, off, ss.length, ce, s, by rw [List.getD_eq_getElem?_getD, hs]; rfl, hsl, by rw [List.getD_eq_getElem?_getD, ht]; exact hall t (List.mem_of_getElem? ht), hm0, fun w' f => ⟨(f.cell (World.block_lt_of_cell? w _ cg) (fun q => q)).trans cg, (f.cell (World.block_lt_of_cell? w _ cx) (fun q => q)).trans cx, fun k u hu => ?_⟩⟩
  have h1 := hsr k u hu
  rw [Nat.zero_mul, Nat.add_zero] at h1
  exact (f.cell (World.block_lt_of_cell? w _ h1) (fun q => q)).trans h1
theorem prs_ends {w : World} {B g g' h h' st k : Nat} {d o : DS} {r q : RD} (hp : Prs w B g g' h h' d r o q) (hs : Sim d r) (ht : Sim o q) (hd : d.rd.length = st) (ho : o.rd.length = st) (hk : k < st) :
    ∃ ss tt, r.V.getD k [] = ss ∧ q.V.getD k [] = tt ∧ ∃ RB1 c1 b1 off1 m1 ce1 s1 RB2 c2 b2 off2 m2 ce2 s2, ss.getD 0 [] = s1 ∧ tt.getD 0 [] = s2 ∧ s1.length = 128 ∧ s2.length = 128 ∧ (ss.getD (ss.length - 1) []).length = 128 ∧ (tt.getD (tt.length - 1) []).length = 128 ∧
      (0 < m1 ∧ ∀ w', Fr (fun _ => False) w w' → w'.cell? ⟨g', 0, none⟩ = some (.slice (some ⟨RB1, 0, none⟩) st c1) ∧ w'.cell? ⟨RB1, k, none⟩ = some (.slice (some ⟨b1, off1, none⟩) m1 ce1) ∧ w'.rangeAt b1 off1 (cellsB s1)) ∧
      (0 < m2 ∧ ∀ w', Fr (fun _ => False) w w' → w'.cell? ⟨h', 0, none⟩ = some (.slice (some ⟨RB2, 0, none⟩) st c2) ∧ w'.cell? ⟨RB2, k, none⟩ = some (.slice (some ⟨b2, off2, none⟩) m2 ce2) ∧ w'.rangeAt b2 off2 (cellsB s2)) ∧
      ∀ w', Fr (fun _ => False) w w' → (Calls Try.prog 11 #[.pointer (some ⟨g', 0, none⟩), .int .i64 k] w' fun e w'' => e = .returned (av (ss.getD (ss.length - 1) [])) ∧ Fr (fun _ => False) w w'') ∧
        (Calls Try.prog 11 #[.pointer (some ⟨h', 0, none⟩), .int .i64 k] w' fun e w'' => e = .returned (av (tt.getD (tt.length - 1) [])) ∧ Fr (fun _ => False) w w'') := by
  obtain ⟨ss, a1, _, a2, a3⟩ := sim_ends (hs.each k (by omega))
  obtain ⟨tt, b1, _, b2, b3⟩ := sim_ends (ht.each k (by omega))
  obtain ⟨P, v, vs, Q, u, us, k1, k2, k3, k4, _⟩ := hp
  obtain ⟨RB1, c1, p1, off1, m1, ce1, s1, x1, x2, x3, x4, x5⟩ := ref_first k2 a1 (hs.len.symm.trans hd)
  obtain ⟨RB2, c2, p2, off2, m2, ce2, s2, y1, y2, y3, y4, y5⟩ := ref_first k4 b1 (ht.len.symm.trans ho)
  refine ⟨ss, tt, by rw [List.getD_eq_getElem?_getD, a1]; rfl, by rw [List.getD_eq_getElem?_getD, b1]; rfl, RB1, c1, p1, off1, m1, ce1, s1, RB2, c2, p2, off2, m2, ce2, s2, x1, y1, x2, y2, x3, y3, ⟨x4, x5⟩, ⟨y4, y5⟩, fun w' f => ⟨?_, ?_⟩⟩
  · exact (rread_any (k2.keep f (fun _ _ q => q)) a1).mono fun e w'' he => ⟨he.1, f.trans he.2 (fun _ _ q => q)⟩
  · exact (rread_any (k4.keep f (fun _ _ q => q)) b1).mono fun e w'' he => ⟨he.1, f.trans he.2 (fun _ _ q => q)⟩
set_option maxRecDepth 100000 in
set_option maxHeartbeats 4000000 in
theorem apart_any {W : World} {v1 v2 v3 : Value} {l1 l2 l3 : List ActD} (h1 : ActV W v1 l1) (z1 : ∀ x ∈ l1, ActZ x) (h2 : ActV W v2 l2) (z2 : ∀ x ∈ l2, ActZ x) (h3 : ActV W v3 l3) (z3 : ∀ x ∈ l3, ActZ x) {st : Nat} (hs0 : 0 < st) (hs1 : st ≤ 8)
    (hf1 : fewB l1 30 = true) (hf2 : fewB l2 30 = true) (hf3 : fewB l3 30 = true) :
    Calls Try.prog 3 #[.int .i64 st, v1, v2, v3] W fun e w' => e = .returned (.bool true) ∧ Fr (fun _ => False) W w' := by
  have F1 := few_any h1 30
  have F2 : ∀ w, Fr (fun _ => False) W w → Calls Try.prog 4 #[v2, .int .i64 30] w fun e w' => e = .returned (.bool true) ∧ Fr (fun _ => False) w w' := fun w f => by
    have := few_any (h2.new f) 30
    rwa [hf2] at this
  have F3 : ∀ w, Fr (fun _ => False) W w → Calls Try.prog 4 #[v3, .int .i64 30] w fun e w' => e = .returned (.bool true) ∧ Fr (fun _ => False) w w' := fun w f => by
    have := few_any (h3.new f) 30
    rwa [hf3] at this
  rw [hf1] at F1
  obtain ⟨B, hB⟩ : ∃ B, B = W.heap.size := ⟨_, rfl⟩
  have hB0 := Lib.hid hB
  have hle : ∀ {l : List ActD}, fewB l 30 = true → l.length ≤ 30 := fun hf => by
    unfold fewB at hf
    simp at hf
    exact hf.2
  have hg1 : ¬ ((st : Int) > 8) := by omega
  have hg1' : ¬ (8 < (st : Int)) := by omega
  have hg2 : ¬ ((st : Int) < 1) := by omega
  have HX := Lib.hid (And.intro (And.intro h1 (And.intro (hle hf1) z1)) (And.intro (And.intro h2 (And.intro (hle hf2) z2)) (And.intro h3 (And.intro (hle hf3) z3))))
  have HBg : ∀ w, Calls Try.prog 6 #[.int .i64 st] w _ := fun w => begin_any w (n := st) hs0 (by omega)
  clear hf1 hf2 hf3 h1 h2 h3 z1 z2 z3 hle
  go_enter Try.func3, Try.ntmps3
  go_wp2_with fail
  refine F1.mono ?_
  rintro e w1 ⟨rfl, f1⟩
  have F2' := F2 w1 f1
  clear F1 F2
  go_wp2_with fail
  refine F2'.mono ?_
  rintro e w2 ⟨rfl, f2⟩
  have f12 := f1.trans f2 (fun _ _ q => q)
  have F3' := F3 w2 f12
  clear F2' F3 f1 f2
  go_wp2_with fail
  refine F3'.mono ?_
  rintro e w3 ⟨rfl, f3⟩
  have f13 := f12.trans f3 (fun _ _ q => q)
  have HB1 := HBg w3
  clear F3' HBg f12 f3
  go_wp2_with fail
  refine HB1.mono ?_
  rintro e w4 ⟨g, g', rfl, ⟨P, rv, rvs, hd, hr, hap⟩, f4⟩
  have HF4 := Lib.hid (f13.trans f4 (fun _ _ q => q))
  have HA4 : Hid (Alike w4 B (fun _ => False) (fun _ => False) g g' st 1) := Lib.hid ⟨newD st, newR st, ⟨P, rv, rvs, ⟨hd.1, fun b hb => ⟨by have := (hd.2 b hb).1; have := f13.size; omega, (hd.2 b hb).2⟩⟩, hr, fun b hb => ⟨by have := (hap b hb).1; have := f13.size; omega, (hap b hb).2⟩, fun _ q => q.elim⟩, sim_new, most_new st 1, by simp [newD]⟩
  clear hd hr hap f13 f4 HB1 hB
  obtain ⟨A1, cap1, hv1, hvl1, ha1⟩ := HX.out.1.1
  obtain ⟨A2, cap2, hv2, hvl2, ha2⟩ := HX.out.2.1.1
  obtain ⟨A3, cap3, hv3, hvl3, ha3⟩ := HX.out.2.2.1
  subst hv1 hv2 hv3
  obtain ⟨n1, hn1⟩ : ∃ n, n = l1.length := ⟨_, rfl⟩
  obtain ⟨n2, hn2⟩ : ∃ n, n = l2.length := ⟨_, rfl⟩
  obtain ⟨n3, hn3⟩ : ∃ n, n = l3.length := ⟨_, rfl⟩
  rw [← hn1] at hvl1 ha1 ⊢
  rw [← hn2] at hvl2 ha2 ⊢
  rw [← hn3] at hvl3 ha3 ⊢
  have hn1' : n1 ≤ 30 := by have := HX.out.1.2.1; omega
  have hn2' : n2 ≤ 30 := by have := HX.out.2.1.2.1; omega
  have hn3' : n3 ≤ 30 := by have := HX.out.2.2.2.1; omega
  have HN := Lib.hid (And.intro (And.intro hn1 ha1) (And.intro (And.intro hn2 ha2) (And.intro hn3 ha3)))
  clear hn1 ha1 hvl1 hn2 ha2 hvl2 hn3 ha3 hvl3
  go_wp2_with fail
  go_loopw [12] (fun i wr => ∃ k : Nat, i = .int .i64 k ∧ k ≤ n1 ∧ Hid (Alike wr B (fun _ => False) (fun _ => False) g g' st (k + 1)) ∧ Hid (Fr (fun _ => False) W wr)) (fun i _ => n1 - (intOf i).toNat)
  case atStart => exact ⟨0, rfl, Nat.zero_le _, HA4, HF4⟩
  case round =>
    obtain ⟨k, rfl, hk, HA, HF⟩ := hrel
    clear HA4 HF4
    by_cases hlt : k < n1
    · obtain ⟨b, off, rfl, hs0⟩ := HN.out.1.2 (by omega)
      obtain ⟨x, hx⟩ : ∃ x, l1[k]? = some x := ⟨_, List.getElem?_eq_getElem (by have := HN.out.1.1; omega)⟩
      have ha := (hs0 k x hx).new HF.out
      have haW := hs0 k x hx
      obtain ⟨d, r, hD, hS, hM, hdl⟩ := HA.out
      have HDo := cdo_any hD hS hM (by omega) (by omega) ha.in_ (fun b hb q => by have := haW.in_.pl b hb q; have := hB0.out; omega) (HX.out.1.2.2 x (List.mem_of_getElem? hx))
      rw [hdl] at HDo
      have HR := Lib.hid (act_range ha)
      have HLn := Lib.hid (actC_len ha.in_.sl)
      have hi0 : (0 : Int) ≤ (k : Int) := by omega
      have hi1 : (k : Int) < (n1 : Int) := by omega
      clear hx ha haW hD hS hM hdl HA hs0
      go_wp2_with (refine wpList_load_mid rfl 34 _ rfl b (off + k * 132) rfl (actC x) _ HR.out Try.underlying34 rfl (by rw [infoAct, HLn.out]) ?_)
      refine HDo.mono ?_
      rintro e w5 ⟨rfl, hA5, f5⟩
      have HF5 := Lib.hid (HF.out.on (f5.mono (fun _ _ q => q.1)) hB0.out)
      have HA5 := Lib.hid hA5
      clear hA5 f5 HDo HR HF
      go_wp2_with fail
      exact ⟨⟨k + 1, by go_num, by omega, HA5, HF5⟩, by simp [intOf]; omega⟩
    · obtain rfl : n1 = k := by omega
      obtain ⟨d, r, ⟨P, v, vs, k1, k2, k3, _⟩, hS, hM, hdl⟩ := HA.out
      have HCp := acopy_any k1 (fun i _ => by have := hM i; omega)
      have hn8 := k1.n1
      have hrl := hS.len
      have HK := Lib.hid (And.intro (And.intro k1 (And.intro k2 k3)) (And.intro hS (And.intro hM hdl)))
      clear k1 k2 k3 hS hM hdl HA hlt hk
      go_wp2_with fail
      refine HCp.mono ?_
      rintro e w5 ⟨g2, o, Q, rfl, j1, _, has, f5⟩
      have HRc := rcopy_any (HK.out.1.2.1.keep f5 (fun _ _ q => q)) (by omega) (by omega)
      have HJ := Lib.hid (And.intro j1 (And.intro has f5))
      clear j1 has f5 HCp hn8 hrl
      go_wp2_with fail
      refine HRc.mono ?_
      rintro e w6 ⟨g2', v2, rfl, j2, hg, hv, f6⟩
      have hP := prs_of HK.out.1.1 HK.out.1.2.1 HK.out.1.2.2 HJ.out.2.2 HJ.out.1 f6 j2 hg hv
      have HP6 := Lib.hid hP
      have HF6 := Lib.hid ((HF.out.trans HJ.out.2.2 (fun _ _ q => q)).trans f6 (fun _ _ q => q))
      have HSm := prs_dsame hP.swap
      clear j2 hg hv f6 hP HRc HF
      go_wp2_with fail
      refine HSm.mono ?_
      rintro e w7 ⟨bb, rfl, hbb, f7⟩
      obtain rfl : bb = true := hbb.2 (like_as HJ.out.2.1)
      have HP7 := Lib.hid (HP6.out.new f7)
      have HF7 := Lib.hid (HF6.out.trans f7 (fun _ _ q => q))
      have HSm2 := prs_dsame HP7.out
      clear hbb f7 HSm HP6 HF6
      go_wp2_with fail
      refine HSm2.mono ?_
      rintro e w8 ⟨bb, rfl, hbb, f8⟩
      obtain rfl : bb = true := hbb.2 (Like.symm (like_as HJ.out.2.1))
      have HF8 := Lib.hid (HF7.out.trans f8 (fun _ _ q => q))
      have HP8 : Hid (∃ d r o q, Prs w8 B g g' g2 g2' d r o q ∧ Sim d r ∧ Sim o q ∧ d.most (n1 + 1) ∧ o.most (n1 + 1) ∧ d.rd.length = st ∧ o.rd.length = st) := Lib.hid ⟨d, r, o, r, HP7.out.new f8, HK.out.2.1, HK.out.2.1.as HJ.out.2.1, HK.out.2.2.1, HJ.out.2.1.most HK.out.2.2.1, HK.out.2.2.2, by rw [HJ.out.2.1.rd]; exact HK.out.2.2.2⟩
      clear hbb f8 HSm2 HP7 HF7 HK HJ
      go_wp2_with fail
      generalize wr = wq15 at *
      go_loopw [15] (fun i wr => ∃ k : Nat, i = .int .i64 k ∧ k ≤ n2 ∧ Hid (∃ d r o q, Prs wr B g g' g2 g2' d r o q ∧ Sim d r ∧ Sim o q ∧ d.most (n1 + 1 + k) ∧ o.most (n1 + 1) ∧ d.rd.length = st ∧ o.rd.length = st) ∧ Hid (Fr (fun _ => False) W wr)) (fun i _ => n2 - (intOf i).toNat)
      case atStart => exact ⟨0, rfl, Nat.zero_le _, HP8, HF8⟩
      case round =>
        obtain ⟨k, rfl, hk, HA, HF⟩ := hrel
        clear HP8 HF8
        by_cases hlt : k < n2
        · obtain ⟨b, off, rfl, hs0⟩ := HN.out.2.1.2 (by omega)
          obtain ⟨x, hx⟩ : ∃ x, l2[k]? = some x := ⟨_, List.getElem?_eq_getElem (by have := HN.out.2.1.1; omega)⟩
          have ha := (hs0 k x hx).new HF.out
          have haW := hs0 k x hx
          obtain ⟨d, r, o, q, hP, hS, hT, hM, hO, hdl, hol⟩ := HA.out
          have HDo := prs_do hP hS hM (by omega) (by omega) ha.in_ (fun b hb q => by have := haW.in_.pl b hb q; have := hB0.out; omega) (HX.out.2.1.2.2 x (List.mem_of_getElem? hx))
          have HKp := Lib.hid (And.intro hS (And.intro hT (And.intro hM (And.intro hO (And.intro hdl hol)))))
          have HR := Lib.hid (act_range ha)
          have HLn := Lib.hid (actC_len ha.in_.sl)
          have hi0 : (0 : Int) ≤ (k : Int) := by omega
          have hi1 : (k : Int) < (n2 : Int) := by omega
          clear hx ha haW hP hS hT hM hO hdl hol HA hs0
          go_wp2_with (refine wpList_load_mid rfl 34 _ rfl b (off + k * 132) rfl (actC x) _ HR.out Try.underlying34 rfl (by rw [infoAct, HLn.out]) ?_)
          refine HDo.mono ?_
          rintro e wa ⟨rfl, hA5, f5⟩
          have HF5 := Lib.hid (HF.out.on f5 hB0.out)
          have HA5 : Hid (∃ d r o q, Prs wa B g g' g2 g2' d r o q ∧ Sim d r ∧ Sim o q ∧ d.most (n1 + 1 + (k + 1)) ∧ o.most (n1 + 1) ∧ d.rd.length = st ∧ o.rd.length = st) := Lib.hid (by
            obtain ⟨d', r', q1, q2, q3, q4⟩ := hA5
            exact ⟨d', r', o, q, q1, q2, HKp.out.2.1, q3, HKp.out.2.2.2.1, by rw [q4]; exact HKp.out.2.2.2.2.1, HKp.out.2.2.2.2.2⟩)
          clear hA5 f5 HDo HR HF HKp
          go_wp2_with fail
          exact ⟨⟨k + 1, by go_num, by omega, HA5, HF5⟩, by simp [intOf]; omega⟩
        · obtain rfl : n2 = k := by omega
          clear hlt hk
          go_wp2_with fail
          have HA16 := HA
          have HF16 := HF
          clear HA HF
          generalize wr = wq16 at *
          go_loopw [16] (fun i wr => ∃ k : Nat, i = .int .i64 k ∧ k ≤ n3 ∧ Hid (∃ d r o q, Prs wr B g g' g2 g2' d r o q ∧ Sim d r ∧ Sim o q ∧ d.most (n1 + 1 + n2) ∧ o.most (n1 + 1 + k) ∧ d.rd.length = st ∧ o.rd.length = st) ∧ Hid (Fr (fun _ => False) W wr)) (fun i _ => n3 - (intOf i).toNat)
          case atStart => exact ⟨0, rfl, Nat.zero_le _, HA16, HF16⟩
          case round =>
            obtain ⟨k, rfl, hk, HA, HF⟩ := hrel
            clear HA16 HF16
            by_cases hlt : k < n3
            · obtain ⟨b, off, rfl, hs0⟩ := HN.out.2.2.2 (by omega)
              obtain ⟨x, hx⟩ : ∃ x, l3[k]? = some x := ⟨_, List.getElem?_eq_getElem (by have := HN.out.2.2.1; omega)⟩
              have ha := (hs0 k x hx).new HF.out
              have haW := hs0 k x hx
              obtain ⟨d, r, o, q, hP, hS, hT, hM, hO, hdl, hol⟩ := HA.out
              have HDo := prs_do hP.swap hT hO (by omega) (by omega) ha.in_ (fun b hb q => by have := haW.in_.pl b hb q; have := hB0.out; omega) (HX.out.2.2.2.2 x (List.mem_of_getElem? hx))
              have HKp := Lib.hid (And.intro hS (And.intro hT (And.intro hM (And.intro hO (And.intro hdl hol)))))
              have HR := Lib.hid (act_range ha)
              have HLn := Lib.hid (actC_len ha.in_.sl)
              have hi0 : (0 : Int) ≤ (k : Int) := by omega
              have hi1 : (k : Int) < (n3 : Int) := by omega
              clear hx ha haW hP hS hT hM hO hdl hol HA hs0
              go_wp2_with (refine wpList_load_mid rfl 34 _ rfl b (off + k * 132) rfl (actC x) _ HR.out Try.underlying34 rfl (by rw [infoAct, HLn.out]) ?_)
              refine HDo.mono ?_
              rintro e wa ⟨rfl, hA5, f5⟩
              have HF5 := Lib.hid (HF.out.on f5 hB0.out)
              have HA5 : Hid (∃ d r o q, Prs wa B g g' g2 g2' d r o q ∧ Sim d r ∧ Sim o q ∧ d.most (n1 + 1 + n2) ∧ o.most (n1 + 1 + (k + 1)) ∧ d.rd.length = st ∧ o.rd.length = st) := Lib.hid (by
                obtain ⟨d', r', q1, q2, q3, q4⟩ := hA5
                exact ⟨d, r, d', r', q1.swap, HKp.out.1, q2, HKp.out.2.2.1, q3, HKp.out.2.2.2.2.1, by rw [q4]; exact HKp.out.2.2.2.2.2⟩)
              clear hA5 f5 HDo HR HF HKp
              go_wp2_with fail
              exact ⟨⟨k + 1, by go_num, by omega, HA5, HF5⟩, by simp [intOf]; omega⟩
            · obtain rfl : n3 = k := by omega
              clear hlt hk
              go_wp2_with fail
              obtain ⟨d, r, o, q, hP, hS, hT, hM, hO, hdl, hol⟩ := HA.out
              have HZ := Lib.hid (And.intro hP (And.intro hS (And.intro hT (And.intro hdl hol))))
              have hst0 : (0 : Int) ≤ (st : Int) := by omega
              clear HA hP hS hT hM hO hdl hol
              generalize wr = wq17 at *
              have HF17 := HF
              clear HF
              go_loopw [17, 18] (fun x i wr => ∃ (al : Bool) (k : Nat), x = .bool al ∧ i = .int .i64 k ∧ k ≤ st ∧ Hid (al = true ↔ ∀ j, j < k → (r.V.getD j []).getD 0 [] = (q.V.getD j []).getD 0 [] ∧ (r.V.getD j []).getD ((r.V.getD j []).length - 1) [] = (q.V.getD j []).getD ((q.V.getD j []).length - 1) []) ∧ Hid (Fr (fun _ => False) wq17 wr)) (fun _ i _ => st - (intOf i).toNat)
              case atStart => exact ⟨true, 0, rfl, rfl, Nat.zero_le _, Lib.hid ⟨fun _ j hj => absurd hj (by omega), fun _ => rfl⟩, Lib.hid (Fr.refl _ _)⟩
              case round =>
                obtain ⟨al, k, rfl, rfl, hk, HAl, HF⟩ := hrel
                by_cases hlt : k < st
                · obtain ⟨ss, tt, e1, e2, RB1, c1, b1, off1, m1, ce1, s1, RB2, c2, b2, off2, m2, ce2, s2, x1, x2, x3, x4, x5, x6, HC1, HC2, HK⟩ := prs_ends (HZ.out.1.new HF.out) HZ.out.2.1 HZ.out.2.2.1 HZ.out.2.2.2.1 HZ.out.2.2.2.2 hlt
                  obtain ⟨lx, hlx⟩ : ∃ lx, lx = ss.getD (ss.length - 1) [] := ⟨_, rfl⟩
                  obtain ⟨ly, hly⟩ : ∃ ly, ly = tt.getD (tt.length - 1) [] := ⟨_, rfl⟩
                  rw [← hlx, ← hly] at HK
                  have hlx8 : Hid (lx.length = 128 ∧ ly.length = 128) := Lib.hid ⟨by rw [hlx]; exact x5, by rw [hly]; exact x6⟩
                  have HE := Lib.hid (And.intro e1 (And.intro e2 (And.intro x1 (And.intro x2 (And.intro hlx hly)))))
                  have HL := Lib.hid (And.intro x3 x4)
                  have hm1 : (0 : Int) < (m1 : Int) := by have := HC1.1; omega
                  have hm2 : (0 : Int) < (m2 : Int) := by have := HC2.1; omega
                  have hm1' : 0 < m1 := by omega
                  have hm2' : 0 < m2 := by omega
                  replace HC1 := Lib.hid HC1.2
                  replace HC2 := Lib.hid HC2.2
                  have HK := Lib.hid HK
                  have hi0 : (0 : Int) ≤ (k : Int) := by omega
                  have hi1 : (k : Int) < (st : Int) := by omega
                  have hu := Try.underlying31
                  have hsz1 : (Try.prog.info? 31).map (·.size) = some (cellsB s1).length := by rw [infoSector, cellsB_len, HL.out.1]
                  have hsz2 : (Try.prog.info? 31).map (·.size) = some (cellsB s2).length := by rw [infoSector, cellsB_len, HL.out.2]
                  clear e1 e2 x1 x2 x3 x4 x5 x6 hlx hly
                  cases al with
                  | false =>
                    go_wp2_with fail
                    refine wp_region_held_drew (S := fun w' => Fr (fun _ => False) wr w') (by kernel_rfl) ((Fr.refl _ _).drew) (fun hS0 => ?_)
                    refine anyH_take 0 110 (.bool false) rfl rfl (by kernel_rfl) (by kernel_rfl) (by kernel_rfl) (fun _ _ _ h => h) (.inl ⟨by rfl, fun w'' hS => by go_simp⟩) hS0 ?_
                    (simp only [List.setIfInBounds_toArray, List.set_cons_zero, List.set_cons_succ])
                    refine anyH_take 1 111 (.bool false) rfl rfl (by kernel_rfl) (by kernel_rfl) (by kernel_rfl) (fun _ _ _ h => h) (.inl ⟨by rfl, fun w'' hS => by go_simp⟩) hS0 ?_
                    (simp only [List.setIfInBounds_toArray, List.set_cons_zero, List.set_cons_succ])
                    refine anyH_take 2 112 undef rfl rfl (by kernel_rfl) (by kernel_rfl) (by kernel_rfl) (fun _ _ _ h => h) (.inr ⟨by rfl, rfl⟩) hS0 ?_
                    (simp only [List.setIfInBounds_toArray, List.set_cons_zero, List.set_cons_succ])
                    refine anyH_take 3 113 undef rfl rfl (by kernel_rfl) (by kernel_rfl) (by kernel_rfl) (fun _ _ _ h => h) (.inr ⟨by rfl, rfl⟩) hS0 ?_
                    (simp only [List.setIfInBounds_toArray, List.set_cons_zero, List.set_cons_succ])
                    refine anyH_take 4 114 undef rfl rfl (by kernel_rfl) (by kernel_rfl) (by kernel_rfl) (fun _ _ _ h => h) (.inr ⟨by rfl, rfl⟩) hS0 ?_
                    (simp only [List.setIfInBounds_toArray, List.set_cons_zero, List.set_cons_succ])
                    refine anyH_take 5 115 undef rfl rfl (by kernel_rfl) (by kernel_rfl) (by kernel_rfl) (fun _ _ _ h => h) (.inr ⟨by rfl, rfl⟩) hS0 ?_
                    (simp only [List.setIfInBounds_toArray, List.set_cons_zero, List.set_cons_succ])
                    refine anyH_take 6 116 undef rfl rfl (by kernel_rfl) (by kernel_rfl) (by kernel_rfl) (fun _ _ _ h => h) (.inr ⟨by rfl, rfl⟩) hS0 ?_
                    (simp only [List.setIfInBounds_toArray, List.set_cons_zero, List.set_cons_succ])
                    refine anyH_take 7 117 undef rfl rfl (by kernel_rfl) (by kernel_rfl) (by kernel_rfl) (fun _ _ _ h => h) (.inr ⟨by rfl, rfl⟩) hS0 ?_
                    (simp only [List.setIfInBounds_toArray, List.set_cons_zero, List.set_cons_succ])
                    refine anyH_take 8 118 undef rfl rfl (by kernel_rfl) (by kernel_rfl) (by kernel_rfl) (fun _ _ _ h => h) (.inr ⟨by rfl, rfl⟩) hS0 ?_
                    (simp only [List.setIfInBounds_toArray, List.set_cons_zero, List.set_cons_succ])
                    refine anyH_take 9 119 undef rfl rfl (by kernel_rfl) (by kernel_rfl) (by kernel_rfl) (fun _ _ _ h => h) (.inr ⟨by rfl, rfl⟩) hS0 ?_
                    (simp only [List.setIfInBounds_toArray, List.set_cons_zero, List.set_cons_succ])
                    refine anyH_take 10 120 undef rfl rfl (by kernel_rfl) (by kernel_rfl) (by kernel_rfl) (fun _ _ _ h => h) (.inr ⟨by rfl, rfl⟩) hS0 ?_
                    (simp only [List.setIfInBounds_toArray, List.set_cons_zero, List.set_cons_succ])
                    refine anyH_take 11 121 undef rfl rfl (by kernel_rfl) (by kernel_rfl) (by kernel_rfl) (fun _ _ _ h => h) (.inr ⟨by rfl, rfl⟩) hS0 ?_
                    (simp only [List.setIfInBounds_toArray, List.set_cons_zero, List.set_cons_succ])
                    refine anyH_take 12 122 undef rfl rfl (by kernel_rfl) (by kernel_rfl) (by kernel_rfl) (fun _ _ _ h => h) (.inr ⟨by rfl, rfl⟩) hS0 ?_
                    (simp only [List.setIfInBounds_toArray, List.set_cons_zero, List.set_cons_succ])
                    refine anyH_take 13 123 undef rfl rfl (by kernel_rfl) (by kernel_rfl) (by kernel_rfl) (fun _ _ _ h => h) (.inr ⟨by rfl, rfl⟩) hS0 ?_
                    (simp only [List.setIfInBounds_toArray, List.set_cons_zero, List.set_cons_succ])
                    refine anyH_take 14 124 undef rfl rfl (by kernel_rfl) (by kernel_rfl) (by kernel_rfl) (fun _ _ _ h => h) (.inr ⟨by rfl, rfl⟩) hS0 ?_
                    (simp only [List.setIfInBounds_toArray, List.set_cons_zero, List.set_cons_succ])
                    refine anyH_take 15 125 undef rfl rfl (by kernel_rfl) (by kernel_rfl) (by kernel_rfl) (fun _ _ _ h => h) (.inr ⟨by rfl, rfl⟩) hS0 ?_
                    (simp only [List.setIfInBounds_toArray, List.set_cons_zero, List.set_cons_succ])
                    refine anyH_take 16 126 undef rfl rfl (by kernel_rfl) (by kernel_rfl) (by kernel_rfl) (fun _ _ _ h => h) (.inr ⟨by rfl, rfl⟩) hS0 ?_
                    (simp only [List.setIfInBounds_toArray, List.set_cons_zero, List.set_cons_succ])
                    refine anyH_take 17 127 undef rfl rfl (by kernel_rfl) (by kernel_rfl) (by kernel_rfl) (fun _ _ _ h => h) (.inr ⟨by rfl, rfl⟩) hS0 ?_
                    (simp only [List.setIfInBounds_toArray, List.set_cons_zero, List.set_cons_succ])
                    refine anyH_take 18 128 undef rfl rfl (by kernel_rfl) (by kernel_rfl) (by kernel_rfl) (fun _ _ _ h => h) (.inr ⟨by rfl, rfl⟩) hS0 ?_
                    (simp only [List.setIfInBounds_toArray, List.set_cons_zero, List.set_cons_succ])
                    refine anyH_take 19 129 undef rfl rfl (by kernel_rfl) (by kernel_rfl) (by kernel_rfl) (fun _ _ _ h => h) (.inr ⟨by rfl, rfl⟩) hS0 ?_
                    (simp only [List.setIfInBounds_toArray, List.set_cons_zero, List.set_cons_succ])
                    refine anyH_take 20 130 undef rfl rfl (by kernel_rfl) (by kernel_rfl) (by kernel_rfl) (fun _ _ _ h => h) (.inr ⟨by rfl, rfl⟩) hS0 ?_
                    (simp only [List.setIfInBounds_toArray, List.set_cons_zero, List.set_cons_succ])
                    refine anyH_take 21 131 (.bool false) rfl rfl (by kernel_rfl) (by kernel_rfl) (by kernel_rfl) (fun _ _ _ h => h) (.inl ⟨by rfl, fun w'' hS => by go_simp⟩) hS0 ?_
                    (simp only [List.setIfInBounds_toArray, List.set_cons_zero, List.set_cons_succ])
                    refine anyH_take 22 132 (.bool false) rfl rfl (by kernel_rfl) (by kernel_rfl) (by kernel_rfl) (fun _ _ _ h => h) (.inl ⟨by rfl, fun w'' hS => by go_simp⟩) hS0 ?_
                    (simp only [List.setIfInBounds_toArray, List.set_cons_zero, List.set_cons_succ])
                    refine anyH_take 23 133 undef rfl rfl (by kernel_rfl) (by kernel_rfl) (by kernel_rfl) (fun _ _ _ h => h) (.inr ⟨by rfl, rfl⟩) hS0 ?_
                    (simp only [List.setIfInBounds_toArray, List.set_cons_zero, List.set_cons_succ])
                    refine anyH_take 24 134 undef rfl rfl (by kernel_rfl) (by kernel_rfl) (by kernel_rfl) (fun _ _ _ h => h) (.inr ⟨by rfl, rfl⟩) hS0 ?_
                    (simp only [List.setIfInBounds_toArray, List.set_cons_zero, List.set_cons_succ])
                    refine anyH_take 25 135 undef rfl rfl (by kernel_rfl) (by kernel_rfl) (by kernel_rfl) (fun _ _ _ h => h) (.inr ⟨by rfl, rfl⟩) hS0 ?_
                    (simp only [List.setIfInBounds_toArray, List.set_cons_zero, List.set_cons_succ])
                    refine anyH_take 26 136 undef rfl rfl (by kernel_rfl) (by kernel_rfl) (by kernel_rfl) (fun _ _ _ h => h) (.inr ⟨by rfl, rfl⟩) hS0 ?_
                    (simp only [List.setIfInBounds_toArray, List.set_cons_zero, List.set_cons_succ])
                    refine anyH_take 27 137 undef rfl rfl (by kernel_rfl) (by kernel_rfl) (by kernel_rfl) (fun _ _ _ h => h) (.inr ⟨by rfl, rfl⟩) hS0 ?_
                    (simp only [List.setIfInBounds_toArray, List.set_cons_zero, List.set_cons_succ])
                    refine anyH_take 28 138 undef rfl rfl (by kernel_rfl) (by kernel_rfl) (by kernel_rfl) (fun _ _ _ h => h) (.inr ⟨by rfl, rfl⟩) hS0 ?_
                    (simp only [List.setIfInBounds_toArray, List.set_cons_zero, List.set_cons_succ])
                    refine anyH_take 29 139 undef rfl rfl (by kernel_rfl) (by kernel_rfl) (by kernel_rfl) (fun _ _ _ h => h) (.inr ⟨by rfl, rfl⟩) hS0 ?_
                    (simp only [List.setIfInBounds_toArray, List.set_cons_zero, List.set_cons_succ])
                    refine anyH_take 30 140 (.bool false) rfl rfl (by kernel_rfl) (by kernel_rfl) (by kernel_rfl) (fun _ _ _ h => h) (.inl ⟨by rfl, fun w'' hS => by go_simp⟩) hS0 ?_
                    (simp only [List.setIfInBounds_toArray, List.set_cons_zero, List.set_cons_succ])
                    refine anyH_take 31 17 (.bool false) rfl rfl (by kernel_rfl) (by kernel_rfl) (by kernel_rfl) (fun _ _ _ h => h) (.inl ⟨by rfl, fun w'' hS => by go_simp⟩) hS0 ?_
                    (simp only [List.setIfInBounds_toArray, List.set_cons_zero, List.set_cons_succ])
                    refine wpAnyH_done (by kernel_rfl) ?_ _
                    clear hu hsz1 hsz2 HC1 HC2 HK
                    go_wp2_with fail
                    exact ⟨⟨false, k + 1, rfl, by go_num, by omega, Lib.hid ⟨fun q => (by cases q), fun q => HAl.out.2 fun j hj => q j (by omega)⟩, Lib.hid (HF.out.trans hS0 (fun _ _ q => q))⟩, by simp [intOf]; omega⟩
                  | true =>
                    by_cases h12 : s1 = s2
                    · have heq : ∀ w, (binOp .eql 31 (.agg (cellsB s1).toArray) (.agg (cellsB s2).toArray)).run Try.prog w = .ok (.bool true) w := fun w => by
                        have := sec_eql s1 s2 HL.out.1 HL.out.2 w
                        simpa [h12] using this
                      obtain ⟨bb, hbb⟩ : ∃ bb : Bool, bb = decide (lx = ly) := ⟨_, rfl⟩
                      have heq2 : ∀ w, (binOp .eql 31 (.agg (cellsB lx).toArray) (.agg (cellsB ly).toArray)).run Try.prog w = .ok (.bool bb) w := fun w => by
                        have := sec_eql lx ly hlx8.out.1 hlx8.out.2 w
                        rw [hbb]
                        exact this
                      have HB := Lib.hid (And.intro h12 hbb)
                      clear h12 hbb
                      go_wp2_with fail
                      refine wp_region_held_drew (S := fun w' => Fr (fun _ => False) wr w') (by kernel_rfl) ((Fr.refl _ _).drew) (fun hS0 => ?_)
                      refine anyH_take 0 110 (.bool true) rfl rfl (by kernel_rfl) (by kernel_rfl) (by kernel_rfl) (fun _ _ _ h => h) (.inl ⟨by rfl, fun w'' hS => by go_simp⟩) hS0 ?_
                      (simp only [List.setIfInBounds_toArray, List.set_cons_zero, List.set_cons_succ])
                      refine anyH_take 1 111 (.bool true) rfl rfl (by kernel_rfl) (by kernel_rfl) (by kernel_rfl) (fun _ _ _ h => h) (.inl ⟨by rfl, fun w'' hS => by go_simp⟩) hS0 ?_
                      (simp only [List.setIfInBounds_toArray, List.set_cons_zero, List.set_cons_succ])
                      refine anyH_take 2 112 (.pointer (some ⟨g', 0, none⟩)) rfl rfl (by kernel_rfl) (by kernel_rfl) (by kernel_rfl) (fun _ _ _ h => h) (.inl ⟨by rfl, fun w'' hS => by go_simp⟩) hS0 ?_
                      (simp only [List.setIfInBounds_toArray, List.set_cons_zero, List.set_cons_succ])
                      refine anyH_take 3 113 (.pointer (some ⟨g', 0, none⟩)) rfl rfl (by kernel_rfl) (by kernel_rfl) (by kernel_rfl) (fun _ _ _ h => h) (.inl ⟨by rfl, fun w'' hS => by go_simp⟩) hS0 ?_
                      (simp only [List.setIfInBounds_toArray, List.set_cons_zero, List.set_cons_succ])
                      refine anyH_take 4 114 (.pointer (some ⟨g', 0, none⟩)) rfl rfl (by kernel_rfl) (by kernel_rfl) (by kernel_rfl) (fun _ _ _ h => h) (.inl ⟨by rfl, fun w'' hS => by go_simp⟩) hS0 ?_
                      (simp only [List.setIfInBounds_toArray, List.set_cons_zero, List.set_cons_succ])
                      refine anyH_take 5 115 (.slice (some ⟨RB1, 0, none⟩) st c1) rfl rfl (by kernel_rfl) (by kernel_rfl) (by kernel_rfl) (fun _ _ _ h => h) (.inl ⟨by rfl, fun w'' hS => by have q0 := (HC1.out w'' (hS)).1; go_simp⟩) hS0 ?_
                      (simp only [List.setIfInBounds_toArray, List.set_cons_zero, List.set_cons_succ])
                      refine anyH_take 6 116 (.int .i64 (k : Nat)) rfl rfl (by kernel_rfl) (by kernel_rfl) (by kernel_rfl) (fun _ _ _ h => h) (.inl ⟨by rfl, fun w'' hS => by go_simp⟩) hS0 ?_
                      (simp only [List.setIfInBounds_toArray, List.set_cons_zero, List.set_cons_succ])
                      refine anyH_take 7 117 (.pointer (some ⟨RB1, k, none⟩)) rfl rfl (by kernel_rfl) (by kernel_rfl) (by kernel_rfl) (fun _ _ _ h => h) (.inl ⟨by rfl, fun w'' hS => by go_simp⟩) hS0 ?_
                      (simp only [List.setIfInBounds_toArray, List.set_cons_zero, List.set_cons_succ])
                      refine anyH_take 8 118 (.slice (some ⟨b1, off1, none⟩) m1 ce1) rfl rfl (by kernel_rfl) (by kernel_rfl) (by kernel_rfl) (fun _ _ _ h => h) (.inl ⟨by rfl, fun w'' hS => by have q0 := (HC1.out w'' (hS)).2.1; go_simp⟩) hS0 ?_
                      (simp only [List.setIfInBounds_toArray, List.set_cons_zero, List.set_cons_succ])
                      refine anyH_take 9 119 (.pointer (some ⟨b1, off1, none⟩)) rfl rfl (by kernel_rfl) (by kernel_rfl) (by kernel_rfl) (fun _ _ _ h => h) (.inl ⟨by rfl, fun w'' hS => by go_simp⟩) hS0 ?_
                      (simp only [List.setIfInBounds_toArray, List.set_cons_zero, List.set_cons_succ])
                      refine anyH_take 10 120 (.agg (cellsB s1).toArray) rfl rfl (by kernel_rfl) (by kernel_rfl) (by kernel_rfl) (fun _ _ _ h => h) (yieldsIf_load_mid (by rfl) _ _ rfl _ _ rfl _ _ (fun w' f => (HC1.out w' f).2.2) hu rfl hsz1) hS0 ?_
                      (simp only [List.setIfInBounds_toArray, List.set_cons_zero, List.set_cons_succ])
                      refine anyH_take 11 121 (.pointer (some ⟨g2', 0, none⟩)) rfl rfl (by kernel_rfl) (by kernel_rfl) (by kernel_rfl) (fun _ _ _ h => h) (.inl ⟨by rfl, fun w'' hS => by go_simp⟩) hS0 ?_
                      (simp only [List.setIfInBounds_toArray, List.set_cons_zero, List.set_cons_succ])
                      refine anyH_take 12 122 (.pointer (some ⟨g2', 0, none⟩)) rfl rfl (by kernel_rfl) (by kernel_rfl) (by kernel_rfl) (fun _ _ _ h => h) (.inl ⟨by rfl, fun w'' hS => by go_simp⟩) hS0 ?_
                      (simp only [List.setIfInBounds_toArray, List.set_cons_zero, List.set_cons_succ])
                      refine anyH_take 13 123 (.pointer (some ⟨g2', 0, none⟩)) rfl rfl (by kernel_rfl) (by kernel_rfl) (by kernel_rfl) (fun _ _ _ h => h) (.inl ⟨by rfl, fun w'' hS => by go_simp⟩) hS0 ?_
                      (simp only [List.setIfInBounds_toArray, List.set_cons_zero, List.set_cons_succ])
                      refine anyH_take 14 124 (.slice (some ⟨RB2, 0, none⟩) st c2) rfl rfl (by kernel_rfl) (by kernel_rfl) (by kernel_rfl) (fun _ _ _ h => h) (.inl ⟨by rfl, fun w'' hS => by have q0 := (HC2.out w'' (hS)).1; go_simp⟩) hS0 ?_
                      (simp only [List.setIfInBounds_toArray, List.set_cons_zero, List.set_cons_succ])
                      refine anyH_take 15 125 (.int .i64 (k : Nat)) rfl rfl (by kernel_rfl) (by kernel_rfl) (by kernel_rfl) (fun _ _ _ h => h) (.inl ⟨by rfl, fun w'' hS => by go_simp⟩) hS0 ?_
                      (simp only [List.setIfInBounds_toArray, List.set_cons_zero, List.set_cons_succ])
                      refine anyH_take 16 126 (.pointer (some ⟨RB2, k, none⟩)) rfl rfl (by kernel_rfl) (by kernel_rfl) (by kernel_rfl) (fun _ _ _ h => h) (.inl ⟨by rfl, fun w'' hS => by go_simp⟩) hS0 ?_
                      (simp only [List.setIfInBounds_toArray, List.set_cons_zero, List.set_cons_succ])
                      refine anyH_take 17 127 (.slice (some ⟨b2, off2, none⟩) m2 ce2) rfl rfl (by kernel_rfl) (by kernel_rfl) (by kernel_rfl) (fun _ _ _ h => h) (.inl ⟨by rfl, fun w'' hS => by have q0 := (HC2.out w'' (hS)).2.1; go_simp⟩) hS0 ?_
                      (simp only [List.setIfInBounds_toArray, List.set_cons_zero, List.set_cons_succ])
                      refine anyH_take 18 128 (.pointer (some ⟨b2, off2, none⟩)) rfl rfl (by kernel_rfl) (by kernel_rfl) (by kernel_rfl) (fun _ _ _ h => h) (.inl ⟨by rfl, fun w'' hS => by go_simp⟩) hS0 ?_
                      (simp only [List.setIfInBounds_toArray, List.set_cons_zero, List.set_cons_succ])
                      refine anyH_take 19 129 (.agg (cellsB s2).toArray) rfl rfl (by kernel_rfl) (by kernel_rfl) (by kernel_rfl) (fun _ _ _ h => h) (yieldsIf_load_mid (by rfl) _ _ rfl _ _ rfl _ _ (fun w' f => (HC2.out w' f).2.2) hu rfl hsz2) hS0 ?_
                      (simp only [List.setIfInBounds_toArray, List.set_cons_zero, List.set_cons_succ])
                      refine anyH_take 20 130 (.bool true) rfl rfl (by kernel_rfl) (by kernel_rfl) (by kernel_rfl) (fun _ _ _ h => h) (.inl ⟨by rfl, fun w'' hS => by go_simp⟩) hS0 ?_
                      (simp only [List.setIfInBounds_toArray, List.set_cons_zero, List.set_cons_succ])
                      refine anyH_take 21 131 (.bool true) rfl rfl (by kernel_rfl) (by kernel_rfl) (by kernel_rfl) (fun _ _ _ h => h) (.inl ⟨by rfl, fun w'' hS => by go_simp⟩) hS0 ?_
                      (simp only [List.setIfInBounds_toArray, List.set_cons_zero, List.set_cons_succ])
                      refine anyH_take 22 132 (.bool true) rfl rfl (by kernel_rfl) (by kernel_rfl) (by kernel_rfl) (fun _ _ _ h => h) (.inl ⟨by rfl, fun w'' hS => by go_simp⟩) hS0 ?_
                      (simp only [List.setIfInBounds_toArray, List.set_cons_zero, List.set_cons_succ])
                      refine anyH_take 23 133 (.pointer (some ⟨g', 0, none⟩)) rfl rfl (by kernel_rfl) (by kernel_rfl) (by kernel_rfl) (fun _ _ _ h => h) (.inl ⟨by rfl, fun w'' hS => by go_simp⟩) hS0 ?_
                      (simp only [List.setIfInBounds_toArray, List.set_cons_zero, List.set_cons_succ])
                      refine anyH_take 24 134 (.int .i64 (k : Nat)) rfl rfl (by kernel_rfl) (by kernel_rfl) (by kernel_rfl) (fun _ _ _ h => h) (.inl ⟨by rfl, fun w'' hS => by go_simp⟩) hS0 ?_
                      (simp only [List.setIfInBounds_toArray, List.set_cons_zero, List.set_cons_succ])
                      refine anyH_take 26 136 (.pointer (some ⟨g2', 0, none⟩)) rfl rfl (by kernel_rfl) (by kernel_rfl) (by kernel_rfl) (fun _ _ _ h => h) (.inl ⟨by rfl, fun w'' hS => by go_simp⟩) hS0 ?_
                      (simp only [List.setIfInBounds_toArray, List.set_cons_zero, List.set_cons_succ])
                      refine anyH_take 27 137 (.int .i64 (k : Nat)) rfl rfl (by kernel_rfl) (by kernel_rfl) (by kernel_rfl) (fun _ _ _ h => h) (.inl ⟨by rfl, fun w'' hS => by go_simp⟩) hS0 ?_
                      (simp only [List.setIfInBounds_toArray, List.set_cons_zero, List.set_cons_succ])
                      refine anyH_one 25 135 (av lx) (by kernel_rfl) (tame_call 135 rfl rfl (by rfl) (fun w'' hS => by go_simp) (fun w'' hS => (HK.out w'' hS).1)) hS0 (fun wl1 hS0 => ?_)
                      (simp only [List.setIfInBounds_toArray, List.set_cons_zero, List.set_cons_succ])
                      refine anyH_one 28 138 (av ly) (by kernel_rfl) (tame_call 138 rfl rfl (by rfl) (fun w'' hS => by go_simp) (fun w'' hS => (HK.out w'' hS).2)) hS0 (fun wl2 hS0 => ?_)
                      (simp only [List.setIfInBounds_toArray, List.set_cons_zero, List.set_cons_succ])
                      refine anyH_take 29 139 (.bool bb) rfl rfl (by kernel_rfl) (by kernel_rfl) (by kernel_rfl) (fun _ _ _ h => h) (.inl ⟨by rfl, fun w'' hS => by go_simp⟩) hS0 ?_
                      (simp only [List.setIfInBounds_toArray, List.set_cons_zero, List.set_cons_succ])
                      refine anyH_take 30 140 (.bool bb) rfl rfl (by kernel_rfl) (by kernel_rfl) (by kernel_rfl) (fun _ _ _ h => h) (.inl ⟨by rfl, fun w'' hS => by go_simp⟩) hS0 ?_
                      (simp only [List.setIfInBounds_toArray, List.set_cons_zero, List.set_cons_succ])
                      refine anyH_take 31 17 (.bool bb) rfl rfl (by kernel_rfl) (by kernel_rfl) (by kernel_rfl) (fun _ _ _ h => h) (.inl ⟨by rfl, fun w'' hS => by go_simp⟩) hS0 ?_
                      (simp only [List.setIfInBounds_toArray, List.set_cons_zero, List.set_cons_succ])
                      refine wpAnyH_done (by kernel_rfl) ?_ _
                      clear hu hsz1 hsz2 HC1 HC2 HK heq heq2
                      go_wp2_with fail
                      refine ⟨⟨bb, k + 1, rfl, by go_num, by omega, Lib.hid ⟨fun e j hj => ?_, fun e => ?_⟩, Lib.hid (HF.out.trans hS0 (fun _ _ q => q))⟩, by simp [intOf]; omega⟩
                      · by_cases ej : j = k
                        · subst ej
                          have h1 := HB.out.2
                          rw [e] at h1
                          have h2 : lx = ly := by simpa using h1.symm
                          rw [HE.out.1, HE.out.2.1, HE.out.2.2.1, HE.out.2.2.2.1, ← HE.out.2.2.2.2.1, ← HE.out.2.2.2.2.2]
                          exact ⟨HB.out.1, h2⟩
                        · exact HAl.out.1 (by first | rfl | trivial) j (by omega)
                      · have h1 := (e k (by omega)).2
                        rw [HE.out.1, HE.out.2.1, ← HE.out.2.2.2.2.1, ← HE.out.2.2.2.2.2] at h1
                        rw [HB.out.2]
                        simpa using h1
                    · have heq : ∀ w, (binOp .eql 31 (.agg (cellsB s1).toArray) (.agg (cellsB s2).toArray)).run Try.prog w = .ok (.bool false) w := fun w => by
                        have := sec_eql s1 s2 HL.out.1 HL.out.2 w
                        simpa [h12] using this
                      have HB := Lib.hid h12
                      clear h12
                      go_wp2_with fail
                      refine wp_region_held_drew (S := fun w' => Fr (fun _ => False) wr w') (by kernel_rfl) ((Fr.refl _ _).drew) (fun hS0 => ?_)
                      refine anyH_take 0 110 (.bool true) rfl rfl (by kernel_rfl) (by kernel_rfl) (by kernel_rfl) (fun _ _ _ h => h) (.inl ⟨by rfl, fun w'' hS => by go_simp⟩) hS0 ?_
                      (simp only [List.setIfInBounds_toArray, List.set_cons_zero, List.set_cons_succ])
                      refine anyH_take 1 111 (.bool true) rfl rfl (by kernel_rfl) (by kernel_rfl) (by kernel_rfl) (fun _ _ _ h => h) (.inl ⟨by rfl, fun w'' hS => by go_simp⟩) hS0 ?_
                      (simp only [List.setIfInBounds_toArray, List.set_cons_zero, List.set_cons_succ])
                      refine anyH_take 2 112 (.pointer (some ⟨g', 0, none⟩)) rfl rfl (by kernel_rfl) (by kernel_rfl) (by kernel_rfl) (fun _ _ _ h => h) (.inl ⟨by rfl, fun w'' hS => by go_simp⟩) hS0 ?_
                      (simp only [List.setIfInBounds_toArray, List.set_cons_zero, List.set_cons_succ])
                      refine anyH_take 3 113 (.pointer (some ⟨g', 0, none⟩)) rfl rfl (by kernel_rfl) (by kernel_rfl) (by kernel_rfl) (fun _ _ _ h => h) (.inl ⟨by rfl, fun w'' hS => by go_simp⟩) hS0 ?_
                      (simp only [List.setIfInBounds_toArray, List.set_cons_zero, List.set_cons_succ])
                      refine anyH_take 4 114 (.pointer (some ⟨g', 0, none⟩)) rfl rfl (by kernel_rfl) (by kernel_rfl) (by kernel_rfl) (fun _ _ _ h => h) (.inl ⟨by rfl, fun w'' hS => by go_simp⟩) hS0 ?_
                      (simp only [List.setIfInBounds_toArray, List.set_cons_zero, List.set_cons_succ])
                      refine anyH_take 5 115 (.slice (some ⟨RB1, 0, none⟩) st c1) rfl rfl (by kernel_rfl) (by kernel_rfl) (by kernel_rfl) (fun _ _ _ h => h) (.inl ⟨by rfl, fun w'' hS => by have q0 := (HC1.out w'' (hS)).1; go_simp⟩) hS0 ?_
                      (simp only [List.setIfInBounds_toArray, List.set_cons_zero, List.set_cons_succ])
                      refine anyH_take 6 116 (.int .i64 (k : Nat)) rfl rfl (by kernel_rfl) (by kernel_rfl) (by kernel_rfl) (fun _ _ _ h => h) (.inl ⟨by rfl, fun w'' hS => by go_simp⟩) hS0 ?_
                      (simp only [List.setIfInBounds_toArray, List.set_cons_zero, List.set_cons_succ])
                      refine anyH_take 7 117 (.pointer (some ⟨RB1, k, none⟩)) rfl rfl (by kernel_rfl) (by kernel_rfl) (by kernel_rfl) (fun _ _ _ h => h) (.inl ⟨by rfl, fun w'' hS => by go_simp⟩) hS0 ?_
                      (simp only [List.setIfInBounds_toArray, List.set_cons_zero, List.set_cons_succ])
                      refine anyH_take 8 118 (.slice (some ⟨b1, off1, none⟩) m1 ce1) rfl rfl (by kernel_rfl) (by kernel_rfl) (by kernel_rfl) (fun _ _ _ h => h) (.inl ⟨by rfl, fun w'' hS => by have q0 := (HC1.out w'' (hS)).2.1; go_simp⟩) hS0 ?_
                      (simp only [List.setIfInBounds_toArray, List.set_cons_zero, List.set_cons_succ])
                      refine anyH_take 9 119 (.pointer (some ⟨b1, off1, none⟩)) rfl rfl (by kernel_rfl) (by kernel_rfl) (by kernel_rfl) (fun _ _ _ h => h) (.inl ⟨by rfl, fun w'' hS => by go_simp⟩) hS0 ?_
                      (simp only [List.setIfInBounds_toArray, List.set_cons_zero, List.set_cons_succ])
                      refine anyH_take 10 120 (.agg (cellsB s1).toArray) rfl rfl (by kernel_rfl) (by kernel_rfl) (by kernel_rfl) (fun _ _ _ h => h) (yieldsIf_load_mid (by rfl) _ _ rfl _ _ rfl _ _ (fun w' f => (HC1.out w' f).2.2) hu rfl hsz1) hS0 ?_
                      (simp only [List.setIfInBounds_toArray, List.set_cons_zero, List.set_cons_succ])
                      refine anyH_take 11 121 (.pointer (some ⟨g2', 0, none⟩)) rfl rfl (by kernel_rfl) (by kernel_rfl) (by kernel_rfl) (fun _ _ _ h => h) (.inl ⟨by rfl, fun w'' hS => by go_simp⟩) hS0 ?_
                      (simp only [List.setIfInBounds_toArray, List.set_cons_zero, List.set_cons_succ])
                      refine anyH_take 12 122 (.pointer (some ⟨g2', 0, none⟩)) rfl rfl (by kernel_rfl) (by kernel_rfl) (by kernel_rfl) (fun _ _ _ h => h) (.inl ⟨by rfl, fun w'' hS => by go_simp⟩) hS0 ?_
                      (simp only [List.setIfInBounds_toArray, List.set_cons_zero, List.set_cons_succ])
                      refine anyH_take 13 123 (.pointer (some ⟨g2', 0, none⟩)) rfl rfl (by kernel_rfl) (by kernel_rfl) (by kernel_rfl) (fun _ _ _ h => h) (.inl ⟨by rfl, fun w'' hS => by go_simp⟩) hS0 ?_
                      (simp only [List.setIfInBounds_toArray, List.set_cons_zero, List.set_cons_succ])
                      refine anyH_take 14 124 (.slice (some ⟨RB2, 0, none⟩) st c2) rfl rfl (by kernel_rfl) (by kernel_rfl) (by kernel_rfl) (fun _ _ _ h => h) (.inl ⟨by rfl, fun w'' hS => by have q0 := (HC2.out w'' (hS)).1; go_simp⟩) hS0 ?_
                      (simp only [List.setIfInBounds_toArray, List.set_cons_zero, List.set_cons_succ])
                      refine anyH_take 15 125 (.int .i64 (k : Nat)) rfl rfl (by kernel_rfl) (by kernel_rfl) (by kernel_rfl) (fun _ _ _ h => h) (.inl ⟨by rfl, fun w'' hS => by go_simp⟩) hS0 ?_
                      (simp only [List.setIfInBounds_toArray, List.set_cons_zero, List.set_cons_succ])
                      refine anyH_take 16 126 (.pointer (some ⟨RB2, k, none⟩)) rfl rfl (by kernel_rfl) (by kernel_rfl) (by kernel_rfl) (fun _ _ _ h => h) (.inl ⟨by rfl, fun w'' hS => by go_simp⟩) hS0 ?_
                      (simp only [List.setIfInBounds_toArray, List.set_cons_zero, List.set_cons_succ])
                      refine anyH_take 17 127 (.slice (some ⟨b2, off2, none⟩) m2 ce2) rfl rfl (by kernel_rfl) (by kernel_rfl) (by kernel_rfl) (fun _ _ _ h => h) (.inl ⟨by rfl, fun w'' hS => by have q0 := (HC2.out w'' (hS)).2.1; go_simp⟩) hS0 ?_
                      (simp only [List.setIfInBounds_toArray, List.set_cons_zero, List.set_cons_succ])
                      refine anyH_take 18 128 (.pointer (some ⟨b2, off2, none⟩)) rfl rfl (by kernel_rfl) (by kernel_rfl) (by kernel_rfl) (fun _ _ _ h => h) (.inl ⟨by rfl, fun w'' hS => by go_simp⟩) hS0 ?_
                      (simp only [List.setIfInBounds_toArray, List.set_cons_zero, List.set_cons_succ])
                      refine anyH_take 19 129 (.agg (cellsB s2).toArray) rfl rfl (by kernel_rfl) (by kernel_rfl) (by kernel_rfl) (fun _ _ _ h => h) (yieldsIf_load_mid (by rfl) _ _ rfl _ _ rfl _ _ (fun w' f => (HC2.out w' f).2.2) hu rfl hsz2) hS0 ?_
                      (simp only [List.setIfInBounds_toArray, List.set_cons_zero, List.set_cons_succ])
                      refine anyH_take 20 130 (.bool false) rfl rfl (by kernel_rfl) (by kernel_rfl) (by kernel_rfl) (fun _ _ _ h => h) (.inl ⟨by rfl, fun w'' hS => by go_simp⟩) hS0 ?_
                      (simp only [List.setIfInBounds_toArray, List.set_cons_zero, List.set_cons_succ])
                      refine anyH_take 21 131 (.bool false) rfl rfl (by kernel_rfl) (by kernel_rfl) (by kernel_rfl) (fun _ _ _ h => h) (.inl ⟨by rfl, fun w'' hS => by go_simp⟩) hS0 ?_
                      (simp only [List.setIfInBounds_toArray, List.set_cons_zero, List.set_cons_succ])
                      refine anyH_take 22 132 (.bool false) rfl rfl (by kernel_rfl) (by kernel_rfl) (by kernel_rfl) (fun _ _ _ h => h) (.inl ⟨by rfl, fun w'' hS => by go_simp⟩) hS0 ?_
                      (simp only [List.setIfInBounds_toArray, List.set_cons_zero, List.set_cons_succ])
                      refine anyH_take 23 133 undef rfl rfl (by kernel_rfl) (by kernel_rfl) (by kernel_rfl) (fun _ _ _ h => h) (.inr ⟨by rfl, rfl⟩) hS0 ?_
                      (simp only [List.setIfInBounds_toArray, List.set_cons_zero, List.set_cons_succ])
                      refine anyH_take 24 134 undef rfl rfl (by kernel_rfl) (by kernel_rfl) (by kernel_rfl) (fun _ _ _ h => h) (.inr ⟨by rfl, rfl⟩) hS0 ?_
                      (simp only [List.setIfInBounds_toArray, List.set_cons_zero, List.set_cons_succ])
                      refine anyH_take 25 135 undef rfl rfl (by kernel_rfl) (by kernel_rfl) (by kernel_rfl) (fun _ _ _ h => h) (.inr ⟨by rfl, rfl⟩) hS0 ?_
                      (simp only [List.setIfInBounds_toArray, List.set_cons_zero, List.set_cons_succ])
                      refine anyH_take 26 136 undef rfl rfl (by kernel_rfl) (by kernel_rfl) (by kernel_rfl) (fun _ _ _ h => h) (.inr ⟨by rfl, rfl⟩) hS0 ?_
                      (simp only [List.setIfInBounds_toArray, List.set_cons_zero, List.set_cons_succ])
                      refine anyH_take 27 137 undef rfl rfl (by kernel_rfl) (by kernel_rfl) (by kernel_rfl) (fun _ _ _ h => h) (.inr ⟨by rfl, rfl⟩) hS0 ?_
                      (simp only [List.setIfInBounds_toArray, List.set_cons_zero, List.set_cons_succ])
                      refine anyH_take 28 138 undef rfl rfl (by kernel_rfl) (by kernel_rfl) (by kernel_rfl) (fun _ _ _ h => h) (.inr ⟨by rfl, rfl⟩) hS0 ?_
                      (simp only [List.setIfInBounds_toArray, List.set_cons_zero, List.set_cons_succ])
                      refine anyH_take 29 139 undef rfl rfl (by kernel_rfl) (by kernel_rfl) (by kernel_rfl) (fun _ _ _ h => h) (.inr ⟨by rfl, rfl⟩) hS0 ?_
                      (simp only [List.setIfInBounds_toArray, List.set_cons_zero, List.set_cons_succ])
                      refine anyH_take 30 140 (.bool false) rfl rfl (by kernel_rfl) (by kernel_rfl) (by kernel_rfl) (fun _ _ _ h => h) (.inl ⟨by rfl, fun w'' hS => by go_simp⟩) hS0 ?_
                      (simp only [List.setIfInBounds_toArray, List.set_cons_zero, List.set_cons_succ])
                      refine anyH_take 31 17 (.bool false) rfl rfl (by kernel_rfl) (by kernel_rfl) (by kernel_rfl) (fun _ _ _ h => h) (.inl ⟨by rfl, fun w'' hS => by go_simp⟩) hS0 ?_
                      (simp only [List.setIfInBounds_toArray, List.set_cons_zero, List.set_cons_succ])
                      refine wpAnyH_done (by kernel_rfl) ?_ _
                      clear hu hsz1 hsz2 HC1 HC2 HK heq
                      go_wp2_with fail
                      refine ⟨⟨false, k + 1, rfl, by go_num, by omega, Lib.hid ⟨fun e => (by cases e), fun e => ?_⟩, Lib.hid (HF.out.trans hS0 (fun _ _ q => q))⟩, by simp [intOf]; omega⟩
                      have h1 := (e k (by omega)).1
                      rw [HE.out.1, HE.out.2.1, HE.out.2.2.1, HE.out.2.2.2.1] at h1
                      exact absurd h1 HB.out
                · obtain rfl : st = k := by omega
                  have HAl' : Hid (al = true ↔ d.Like o) := Lib.hid (by rw [like_iff HZ.out.2.1 HZ.out.2.2.1 (by rw [HZ.out.2.2.2.1, HZ.out.2.2.2.2]), HZ.out.2.2.2.1]; exact HAl.out)
                  have C1 := prs_same (HZ.out.1.new HF.out) HZ.out.2.1
                  clear hlt hk HAl
                  go_wp2_with fail
                  refine C1.mono ?_
                  rintro e wa ⟨rfl, f1⟩
                  have HF1 := Lib.hid (HF.out.trans f1 (fun _ _ q => q))
                  have C2 := prs_same (HZ.out.1.new HF1.out).swap HZ.out.2.2.1
                  clear C1 f1 HF
                  go_wp2_with fail
                  refine C2.mono ?_
                  rintro e wb ⟨rfl, f2⟩
                  have HF2 := Lib.hid (HF1.out.trans f2 (fun _ _ q => q))
                  have C3 := prs_dsame (HZ.out.1.new HF2.out)
                  clear C2 f2 HF1
                  go_wp2_with fail
                  refine C3.mono ?_
                  rintro e wc ⟨bb, rfl, hbb, f3⟩
                  obtain rfl : bb = al := Bool.eq_iff_iff.2 (hbb.trans HAl'.out.symm)
                  have HF3 := Lib.hid (HF2.out.trans f3 (fun _ _ q => q))
                  have C4 := prs_dsame (HZ.out.1.new HF3.out).swap
                  clear C3 f3 HF2 hbb
                  have hee : (bb == bb) = true := by simp
                  go_wp2_with fail
                  refine C4.mono ?_
                  rintro e wd ⟨bc, rfl, hbc, f4⟩
                  obtain rfl : bc = bb := Bool.eq_iff_iff.2 ((hbc.trans ⟨Like.symm, Like.symm⟩).trans HAl'.out.symm)
                  have HF4 := Lib.hid (HF3.out.trans f4 (fun _ _ q => q))
                  clear C4 f4 HF3 hbc
                  go_wp2_with fail
                  refine (known_any _).mono ?_
                  rintro e we ⟨rfl, f5⟩
                  go_wp2_with fail
                  go_ret
                  exact ⟨rfl, HF17.out.trans (HF4.out.trans f5 (fun _ _ q => q)) (fun _ _ q => q)⟩
end Go.Proofs.Ytiobmejnamdneaa
