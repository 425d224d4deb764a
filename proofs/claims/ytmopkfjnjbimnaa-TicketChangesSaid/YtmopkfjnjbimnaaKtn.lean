/- couponref13: Then. -/
import Derived.Test.YtmopkfjnjbimnaaKmw
namespace Go.Proofs.Ytmopkfjnjbimnaa
open Go.RowKit

/-- One more of a row, beside another row and a box. -/
theorem rep_succ (k : Nat) : List.replicate k (1 : Int) ++ [1] = List.replicate (k + 1) 1 := by
  rw [List.replicate_succ']
theorem evsOn_snoc (till : Int) : ∀ (l : List EvT) (s : List Int × List Int × Int) (x : EvT), evsOn till s (l ++ [x]) = (evsOn till s l).bind fun r => evOn till r x
  | [], s, x => by
    simp only [List.nil_append, evsOn, Option.bind_some]
    cases evOn till s x <;> rfl
  | y :: l, s, x => by
    simp only [List.cons_append, evsOn]
    cases h : evOn till s y with
    | none => rfl
    | some r => exact evsOn_snoc till l r x
theorem evsOn_app (till : Int) : ∀ (l m : List EvT) (s : List Int × List Int × Int), evsOn till s (l ++ m) = (evsOn till s l).bind fun r => evsOn till r m
  | [], m, s => rfl
  | y :: l, m, s => by
    simp only [List.cons_append, evsOn]
    cases h : evOn till s y with
    | none => rfl
    | some r => exact evsOn_app till l m r
theorem evsOn_none (till : Int) (l : List EvT) (s : List Int × List Int × Int) (n : Nat) (h : evsOn till s (l.take n) = none) : evsOn till s l = none := by
  rw [← List.take_append_drop n l, evsOn_app, h]
  rfl
theorem take_succ' {α : Type} {l : List α} {k : Nat} {x : α} (h : l[k]? = some x) : l.take (k + 1) = l.take k ++ [x] := by
  rw [List.take_add_one, h]
  rfl
theorem row_lt {w : World} {B k : Nat} {v : Value} {l : List Int} (h : RowS w B v l) (hk : v.ownBlock = some k) : k < w.heap.size := by
  obtain ⟨-, h | ⟨b, c, cs, rfl, h1, h2, -⟩⟩ := h
  · obtain ⟨rfl, -⟩ := h
    cases hk
  · injection hk with hk
    subst hk
    exact Blk.lt h2
/-- A row grows; another row, and a box, stay. -/
theorem th_one {w0 w1 w2 : World} {B n : Nat} {v u v' : Value} {l m : List Int} {z : Int} {cs : Array Value} (h : RowS w1 B v l) (hu : RowS w1 B u m) (hd : ∀ b, v.ownBlock = some b → u.ownBlock ≠ some b) (f : Fr (fun _ => False) w0 w1) (hb : Blk w1 n 27 cs)
    (ho : RowS w2 B v' (l ++ [z])) (hg : w1.grownBy w2 v.ownBlock) (hat : v'.ownBlock = v.ownBlock ∨ v'.ownBlock = some w1.heap.size) (hB : B ≤ w1.heap.size) (hn : n < B) (hw : w0.heap.size ≤ B) :
    RowS w2 B v' (l ++ [z]) ∧ RowS w2 B u m ∧ (∀ b, v'.ownBlock = some b → u.ownBlock ≠ some b) ∧ Fr (fun _ => False) w0 w2 ∧ Blk w2 n 27 cs := by
  have fg : Fr (fun b => v.ownBlock = some b) w1 w2 := (Fr.refl _ w1).grown hg (fun k hk => .inl hk)
  refine ⟨ho, hu.keep fg (fun b h1 h2 => hd b h2 h1), fun b h1 h2 => ?_, f.grown hg (fun k hk => .inr (Nat.le_trans hw (h.low hk))), hb.keep fg (fun q => by have := h.low q; omega)⟩
  rcases hat with e | e
  · exact hd b (e ▸ h1) h2
  · rw [e] at h1
    injection h1 with h1
    have := row_lt hu h2
    omega
set_option maxRecDepth 100000 in
set_option maxHeartbeats 8000000 in
theorem rthen_any {w : World} {v : Value} {t : TkD} (till : Int) (hv : TkV w v t) (hok : TkOk t) (hn1 : t.cps.length ≤ 100) (hn2 : t.his.length ≤ 1000) :
    Calls Try.prog 24 #[v, .int .i64 till] w fun e w' => ∃ u, e = .returned (.tuple #[u, .bool (thenT t till).isSome]) ∧ IntsAt w' u ((thenT t till).getD []) ∧ Fr (fun _ => False) w w' := by
  obtain ⟨sc, sx, se, rfl, a1, a2, a3⟩ := hv
  have HT := Lib.hid hok
  obtain ⟨r, hr⟩ : ∃ r, r = thenT t till := ⟨_, rfl⟩
  rw [← hr]
  have HRR := Lib.hid hr
  clear hr
  have HA := Lib.hid (And.intro a1 (And.intro a2 a3))
  obtain ⟨A1, n1, c1, e1, l1⟩ : ∃ A n c, sc = .slice A n c ∧ n = t.cps.length := by obtain ⟨A, c, e, _⟩ := a1.slice; exact ⟨A, _, c, e, rfl⟩
  obtain ⟨A2, n2, c2, e2, l2⟩ : ∃ A n c, sx = .slice A n c ∧ n = t.txs.length := by obtain ⟨A, c, e, _⟩ := a2.slice; exact ⟨A, _, c, e, rfl⟩
  obtain ⟨A3, n3, c3, e3, l3⟩ : ∃ A n c, se = .slice A n c ∧ n = t.his.length := by obtain ⟨A, c, e, _⟩ := a3.slice; exact ⟨A, _, c, e, rfl⟩
  subst e1 e2 e3
  have m1 : n1 ≤ 100 := by omega
  have m3 : n3 ≤ 1000 := by omega
  have HL := Lib.hid (And.intro l1 (And.intro l2 l3))
  obtain ⟨W0, hW0⟩ : ∃ W, W = w.alloc (.cells (tkA t (.slice A1 n1 c1) (.slice A2 n2 c2) (.slice A3 n3 c3)) 27) := ⟨_, rfl⟩
  have HB : Hid (Fr (fun _ => False) w W0 ∧ Blk W0 w.heap.size 27 (tkA t (.slice A1 n1 c1) (.slice A2 n2 c2) (.slice A3 n3 c3)) ∧ W0.heap.size = w.heap.size + 1) := Lib.hid (by rw [hW0]; exact ⟨(Fr.refl _ w).alloc _, Blk.new w _ _, Array.size_push _⟩)
  have HQ := Lib.hid hW0
  clear a1 a2 a3 l1 l2 l3 hW0 hok hn1 hn2
  go_enter Try.func24, Try.ntmps24
  go_wp2_with fail
  rw [← HQ.out]
  clear HQ
  have H0 : Hid (RowS W0 (w.heap.size + 1) (.slice none 0 0) (List.replicate 0 1)) := Lib.hid (RowS.nil _ _)
  have H1 : Hid (Fr (fun _ => False) W0 W0) := Lib.hid (Fr.refl _ _)
  go_loopw [6, 7, 8] (fun p q x wq => ∃ (pv qv : Value) (k : Nat), pv = p ∧ qv = q ∧ x = .int .i64 k ∧ k ≤ n1 ∧ Hid (RowS wq (w.heap.size + 1) pv (List.replicate k 1)) ∧ Hid (RowS wq (w.heap.size + 1) qv (List.replicate k 1)) ∧ Hid (∀ b, pv.ownBlock = some b → qv.ownBlock ≠ some b) ∧ Hid (Fr (fun _ => False) W0 wq)) (fun _ _ x _ => n1 - (intOf x).toNat)
  case atStart => exact ⟨_, _, 0, rfl, rfl, rfl, Nat.zero_le _, H0, H0, Lib.hid (fun b h => by cases h), H1⟩
  case round =>
    clear H0 H1
    obtain ⟨p, q, k, hp, hq, rfl, hk, HP, HV, HN, HF⟩ := hrel
    subst hp hq
    have hx1 := cp_cell (HB.out.2.1.keep HF.out (fun q => q)) 3 rfl
    by_cases hlt : k < n1
    · have hki : (k : Int) < (n1 : Int) := by omega
      have HK := Lib.hid hlt
      have HM := Lib.hid (show (List.replicate k (1 : Int)).length ≤ 100000 by rw [List.length_replicate]; omega)
      have HSZ : Hid (w.heap.size + 1 ≤ wr.heap.size) := Lib.hid (by rw [← HB.out.2.2]; exact HF.out.size)
      have fb : Fr (fun _ => False) wr (wr.alloc (.cells #[.int .i64 1] 41)) := (Fr.refl _ wr).alloc _
      have HE := Lib.hid (And.intro (HP.out.keep0 fb) (And.intro (HV.out.keep0 fb) (And.intro (HF.out.trans fb (fun _ _ q => q)) (And.intro ((Blk.new wr 41 #[.int .i64 1]).cell 0) (And.intro fb.size ((HB.out.2.1.keep HF.out (fun q => q)).keep fb (fun q => q)))))))
      obtain ⟨Ap, cp, hpf, _⟩ := HP.out.slice
      obtain ⟨Aq, cq, hqf, _⟩ := HV.out.slice
      rw [List.length_replicate] at hpf hqf
      clear fb hlt
      subst hpf hqf
      go_wp2_with (first
        | (at_builtin; refine wpList_push_st rfl (.tmp 20) (.tmp 21) rfl rfl HE.out.1 rfl HE.out.2.2.2.1 HM.out (Nat.le_trans HSZ.out HE.out.2.2.2.2.1) ?_; intro v3 w3 ho3 hg3 hat3; have HG := Lib.hid (th_one HE.out.1 HE.out.2.1 HN.out HE.out.2.2.1 HE.out.2.2.2.2.2 ho3 hg3 hat3 (Nat.le_trans HSZ.out HE.out.2.2.2.2.1) (Nat.lt_succ_self _) (Nat.le_of_eq HB.out.2.2)); clear ho3 hg3 hat3; have fb3 : Fr (fun _ => False) w3 (w3.alloc (.cells #[.int .i64 1] 41)) := (Fr.refl _ w3).alloc _; have HE3 := Lib.hid (And.intro (HG.out.1.keep0 fb3) (And.intro (HG.out.2.1.keep0 fb3) (And.intro (HG.out.2.2.2.1.trans fb3 (fun _ _ q => q)) (And.intro ((Blk.new w3 41 #[.int .i64 1]).cell 0) (And.intro fb3.size (HG.out.2.2.2.2.keep fb3 (fun q => q))))))); clear fb3)
        | (at_builtin; refine wpList_push_st rfl (.tmp 23) (.tmp 24) rfl rfl HE3.out.2.1 rfl HE3.out.2.2.2.1 HM.out (Nat.le_trans (Nat.succ_le_of_lt HG.out.2.2.2.2.lt) HE3.out.2.2.2.2.1) ?_; intro v4 w4 ho4 hg4 hat4; have HG4 := Lib.hid (th_one HE3.out.2.1 HE3.out.1 (fun b h1 h2 => HG.out.2.2.1 b h2 h1) HE3.out.2.2.1 HE3.out.2.2.2.2.2 ho4 hg4 hat4 (Nat.le_trans (Nat.succ_le_of_lt HG.out.2.2.2.2.lt) HE3.out.2.2.2.2.1) (Nat.lt_succ_self _) (Nat.le_of_eq HB.out.2.2)); clear ho4 hg4 hat4))
      refine ⟨⟨v3, v4, k + 1, rfl, rfl, by go_num, by have := HK.out; omega, Lib.hid (by rw [← rep_succ]; exact HG4.out.2.1), Lib.hid (by rw [← rep_succ]; exact HG4.out.1), Lib.hid (fun b h1 h2 => HG4.out.2.2.1 b h2 h1), Lib.hid HG4.out.2.2.2.1⟩, ?_⟩
      simp [intOf]
      have := HK.out
      omega
    · obtain rfl : k = n1 := by omega
      have hkk : ¬ (k : Int) < (k : Int) := by omega
      obtain ⟨Ap, cp, hpf, _⟩ := HP.out.slice
      obtain ⟨Aq, cq, hqf, _⟩ := HV.out.slice
      rw [List.length_replicate] at hpf hqf
      clear hlt
      subst hpf hqf
      have hx2 := cp_cell (HB.out.2.1.keep HF.out (fun q => q)) 2 rfl
      go_wp2_with fail
      clear hkk hx1 hx2
      have HN2 := HN
      have HP0 : Hid (RowS wr (w.heap.size + 1) (.slice Ap k cp) (List.replicate k 1) ∧ (List.replicate k (1 : Int)).length = k) := Lib.hid ⟨HP.out, List.length_replicate⟩
      have HV0 : Hid (RowS wr (w.heap.size + 1) (.slice Aq k cq) (List.replicate k 1) ∧ (List.replicate k (1 : Int)).length = k) := Lib.hid ⟨HV.out, List.length_replicate⟩
      have HF0 := HF
      clear HP HV HF HN
      generalize wr = wo at *
      have HE0 : Hid (evsOn till (List.replicate k 1, List.replicate k 1, t.iss) (t.his.take 0) = some (List.replicate k 1, List.replicate k 1, t.iss)) := Lib.hid rfl
      go_loopw [9, 10] (fun lst x wq => ∃ (k2 : Nat) (now was : List Int) (d : Int), lst = .int .i64 d ∧ x = .int .i64 k2 ∧ k2 ≤ n3 ∧ Hid (evsOn till (List.replicate k 1, List.replicate k 1, t.iss) (t.his.take k2) = some (now, was, d)) ∧ Hid (RowS wq (w.heap.size + 1) (.slice Ap k cp) now ∧ now.length = k) ∧ Hid (RowS wq (w.heap.size + 1) (.slice Aq k cq) was ∧ was.length = k) ∧ Hid (Fr (fun _ => False) W0 wq)) (fun _ x _ => n3 - (intOf x).toNat)
      case atStart => exact ⟨0, _, _, _, rfl, rfl, Nat.zero_le _, HE0, HP0, HV0, HF0⟩
      case round =>
        clear HP0 HV0 HF0 HE0
        obtain ⟨k2, now, was, d, rfl, rfl, hk2, HE, HP, HV, HF⟩ := hrel
        by_cases hlt : k2 < n3
        · obtain ⟨x1, hx⟩ : ∃ x, t.his[k2]? = some x := ⟨_, List.getElem?_eq_getElem (by rw [← HL.out.2.2]; exact hlt)⟩
          obtain ⟨b3, o3, cc3, e3, hc3⟩ := HA.out.2.2.cell hx
          injection e3 with e3 e3n e3c
          subst e3
          have hx1 := cp_cell (HB.out.2.1.keep HF.out (fun q => q)) 10 rfl
          have hy1 : wr.rangeAt b3 (o3 + k2 * 4) (evC x1) := fun j u hu => by have h5 := hc3 j u hu; exact ((HB.out.1.trans HF.out (fun _ _ q => q)).cell (World.block_lt_of_cell? w _ h5) (fun q => q)).trans h5
          have hk0 : (0 : Int) ≤ (k2 : Int) := by omega
          have hkm : (k2 : Int) < (n3 : Int) := by omega
          have HXY := Lib.hid (And.intro hx hlt)
          clear hx hc3 e3n e3c hlt
          go_wp2_with (refine wpList_load_mid rfl 51 (.tmp 38) rfl b3 (o3 + k2 * 4) rfl (evC x1) _ hy1 Try.underlying51 rfl (info_size infoEv) ?_)
          obtain ⟨xd, xc, xf, xt⟩ := x1
          obtain ⟨W1, hW1⟩ : ∃ W, W = wr.alloc (.cells #[.int .i64 xd, .int .i64 xc, .int .i64 xf, .int .i64 xt] 51) := ⟨_, rfl⟩
          have f1 : Fr (fun _ => False) wr W1 := by rw [hW1]; exact (Fr.refl _ wr).alloc _
          have hb1 : Blk W1 wr.heap.size 51 #[.int .i64 xd, .int .i64 xc, .int .i64 xf, .int .i64 xt] := by rw [hW1]; exact Blk.new wr _ _
          have HEV : Hid (∀ W, Fr (fun _ => False) W1 W → W.cell? ⟨wr.heap.size, 0, none⟩ = some (.int .i64 xd) ∧ W.cell? ⟨wr.heap.size, 1, none⟩ = some (.int .i64 xc) ∧ W.cell? ⟨wr.heap.size, 2, none⟩ = some (.int .i64 xf) ∧ W.cell? ⟨wr.heap.size, 3, none⟩ = some (.int .i64 xt)) := Lib.hid (fun W f => by
            have hb := hb1.keep f (fun q => q)
            exact ⟨cp_cell hb 0 rfl, cp_cell hb 1 rfl, cp_cell hb 2 rfl, cp_cell hb 3 rfl⟩)
          have HXO : Hid (EvtOk ⟨xd, xc, xf, xt⟩) := Lib.hid (HT.out.his _ (List.mem_of_getElem? HXY.out.1))
          have HP1 := Lib.hid (HP.out.1.keep0 f1)
          have HV1 := Lib.hid (HV.out.1.keep0 f1)
          have HF1 := Lib.hid (HF.out.trans f1 (fun _ _ q => q))
          have HGL : Hid ((∀ b, (Value.slice Ap k cp).ownBlock = some b → b < wr.heap.size) ∧ ∀ b, (Value.slice Aq k cq).ownBlock = some b → b < wr.heap.size) := Lib.hid ⟨fun b hb => row_lt HP.out.1 hb, fun b hb => row_lt HV.out.1 hb⟩
          have HLD := Lib.hid (fun W => rleads_any xf xt W)
          have hstep := evsOn_snoc till (t.his.take k2) (List.replicate k 1, List.replicate k 1, t.iss) ⟨xd, xc, xf, xt⟩
          rw [HE.out, ← take_succ' HXY.out.1, Option.bind_some] at hstep
          have hthen : evOn till (now, was, d) ⟨xd, xc, xf, xt⟩ = none → r = none := fun e => by
            rw [e] at hstep
            rw [HRR.out]
            unfold thenT
            rw [← HL.out.1, evsOn_none till t.his _ (k2 + 1) hstep]
          have HTN := Lib.hid hthen
          have HST := Lib.hid hstep
          have HNL := Lib.hid (And.intro HP.out.2 HV.out.2)
          rw [← hW1]
          clear hstep hthen hW1 f1 hb1 hx1 hy1 hk0 hkm HP HV HF HE
          generalize hge : wr.heap.size = ge at *
          clear hge
          by_cases c0 : 1 ≤ xc
          · have Q0 : Hid (¬ xc < 1) := Lib.hid (by omega)
            by_cases c1 : xc ≤ (k : Int)
            · have Q1 : Hid (¬ (k : Int) < xc) := Lib.hid (by omega)
              by_cases c2 : d ≤ xd
              · have Q2 : Hid (¬ xd < d) := Lib.hid (by omega)
                by_cases c3 : xd ≤ 1000000
                · have Q3 : Hid (¬ 1000000 < xd) := Lib.hid (by omega)
                  obtain ⟨m, hm⟩ : ∃ m : Nat, xc = (m : Int) + 1 := ⟨(xc - 1).toNat, by omega⟩
                  have HM : Hid (xc - 1 = (m : Int) ∧ IntKind.i64.wrap (m : Int) = (m : Int) ∧ (0 : Int) ≤ (m : Int) ∧ (m : Int) < (k : Int)) := Lib.hid ⟨by omega, wrapI_id (by omega) (by omega), by omega, by omega⟩
                  have hmk : m < k := by omega
                  obtain ⟨nm, hnm⟩ : ∃ z, now[m]? = some z := ⟨_, List.getElem?_eq_getElem (by rw [HNL.out.1]; exact hmk)⟩
                  obtain ⟨wm, hwm⟩ : ∃ z, was[m]? = some z := ⟨_, List.getElem?_eq_getElem (by rw [HNL.out.2]; exact hmk)⟩
                  obtain ⟨gN, cpN, eN, hcN⟩ := HP1.out.cell hnm
                  obtain ⟨gQ, cpQ, eQ, hcQ⟩ := HV1.out.cell hwm
                  injection eN with eN eN2 eN3
                  injection eQ with eQ eQ2 eQ3
                  subst eN eQ
                  have HNM : Hid (∀ W, Fr (fun _ => False) W1 W → W.cell? ⟨gN, m, none⟩ = some (.int .i64 nm)) := Lib.hid (fun W f => (f.cell (World.block_lt_of_cell? W1 _ hcN) (fun q => q)).trans hcN)
                  have HXM := Lib.hid (And.intro c0 (And.intro c1 (And.intro c2 (And.intro c3 (And.intro hm (And.intro hmk (And.intro hnm (And.intro hwm hcQ))))))))
                  have hmn : (xc - 1).toNat = m := by omega
                  have HMN := Lib.hid hmn
                  clear c0 c1 c2 c3 hm hmk hnm hwm hcN hcQ eN2 eN3 eQ2 eQ3 hmn
                  by_cases c4 : xf = nm
                  · have Q4 : Hid ((xf != nm) = false) := Lib.hid (by rw [bne_eq_false_iff_eq]; exact c4)
                    have HC4 := Lib.hid c4
                    clear c4
                    cases c5 : leadsS xf xt with
                    | false =>
                      rw [c5] at HLD
                      obtain rfl : r = none := HTN.out (by
                        unfold evOn
                        rw [if_neg]
                        intro q
                        exact absurd q.2.2.2.2.2 (by show ¬ leadsS xf xt = true; rw [c5]; simp))
                      clear HTN HST c5
                      go_wp2_with fail
                      refine wp_region_held_drew (S := fun w' => Fr (fun _ => False) W1 w') (by kernel_rfl) ((Fr.refl _ W1).drew) (fun hS0 => ?_)
                      refine anyH_take 0 40 (.pointer (some ⟨ge, 1, none⟩)) rfl rfl (by kernel_rfl) (by kernel_rfl) (by kernel_rfl) (fun _ _ _ h => h) (.inl ⟨by rfl, fun w'' hS => by go_simp⟩) hS0 ?_
                      (simp only [List.setIfInBounds_toArray, List.set_cons_zero, List.set_cons_succ])
                      refine anyH_take 1 41 (.int .i64 xc) rfl rfl (by kernel_rfl) (by kernel_rfl) (by kernel_rfl) (fun _ _ _ h => h) (.inl ⟨by rfl, fun w'' hS => by have q0 := (HEV.out _ hS).2.1; go_simp⟩) hS0 ?_
                      (simp only [List.setIfInBounds_toArray, List.set_cons_zero, List.set_cons_succ])
                      refine anyH_take 2 42 (.bool false) rfl rfl (by kernel_rfl) (by kernel_rfl) (by kernel_rfl) (fun _ _ _ h => h) (.inl ⟨by rfl, fun w'' hS => by have q0 := Q0.out; go_simp⟩) hS0 ?_
                      (simp only [List.setIfInBounds_toArray, List.set_cons_zero, List.set_cons_succ])
                      refine anyH_take 3 43 (.bool false) rfl rfl (by kernel_rfl) (by kernel_rfl) (by kernel_rfl) (fun _ _ _ h => h) (.inl ⟨by rfl, fun w'' hS => by go_simp⟩) hS0 ?_
                      (simp only [List.setIfInBounds_toArray, List.set_cons_zero, List.set_cons_succ])
                      refine anyH_take 4 44 (.pointer (some ⟨ge, 1, none⟩)) rfl rfl (by kernel_rfl) (by kernel_rfl) (by kernel_rfl) (fun _ _ _ h => h) (.inl ⟨by rfl, fun w'' hS => by go_simp⟩) hS0 ?_
                      (simp only [List.setIfInBounds_toArray, List.set_cons_zero, List.set_cons_succ])
                      refine anyH_take 5 45 (.int .i64 xc) rfl rfl (by kernel_rfl) (by kernel_rfl) (by kernel_rfl) (fun _ _ _ h => h) (.inl ⟨by rfl, fun w'' hS => by have q0 := (HEV.out _ hS).2.1; go_simp⟩) hS0 ?_
                      (simp only [List.setIfInBounds_toArray, List.set_cons_zero, List.set_cons_succ])
                      refine anyH_take 6 46 (.slice (some ⟨gN, 0, none⟩) k cp) rfl rfl (by kernel_rfl) (by kernel_rfl) (by kernel_rfl) (fun _ _ _ h => h) (.inl ⟨by rfl, fun w'' hS => by go_simp⟩) hS0 ?_
                      (simp only [List.setIfInBounds_toArray, List.set_cons_zero, List.set_cons_succ])
                      refine anyH_take 7 47 (.int .i64 (k : Nat)) rfl rfl (by kernel_rfl) (by kernel_rfl) (by kernel_rfl) (fun _ _ _ h => h) (.inl ⟨by rfl, fun w'' hS => by go_simp⟩) hS0 ?_
                      (simp only [List.setIfInBounds_toArray, List.set_cons_zero, List.set_cons_succ])
                      refine anyH_take 8 48 (.bool false) rfl rfl (by kernel_rfl) (by kernel_rfl) (by kernel_rfl) (fun _ _ _ h => h) (.inl ⟨by rfl, fun w'' hS => by have q0 := Q1.out; go_simp⟩) hS0 ?_
                      (simp only [List.setIfInBounds_toArray, List.set_cons_zero, List.set_cons_succ])
                      refine anyH_take 9 49 (.bool false) rfl rfl (by kernel_rfl) (by kernel_rfl) (by kernel_rfl) (fun _ _ _ h => h) (.inl ⟨by rfl, fun w'' hS => by go_simp⟩) hS0 ?_
                      (simp only [List.setIfInBounds_toArray, List.set_cons_zero, List.set_cons_succ])
                      refine anyH_take 10 50 (.bool false) rfl rfl (by kernel_rfl) (by kernel_rfl) (by kernel_rfl) (fun _ _ _ h => h) (.inl ⟨by rfl, fun w'' hS => by go_simp⟩) hS0 ?_
                      (simp only [List.setIfInBounds_toArray, List.set_cons_zero, List.set_cons_succ])
                      refine anyH_take 11 51 (.pointer (some ⟨ge, 0, none⟩)) rfl rfl (by kernel_rfl) (by kernel_rfl) (by kernel_rfl) (fun _ _ _ h => h) (.inl ⟨by rfl, fun w'' hS => by go_simp⟩) hS0 ?_
                      (simp only [List.setIfInBounds_toArray, List.set_cons_zero, List.set_cons_succ])
                      refine anyH_take 12 52 (.int .i64 xd) rfl rfl (by kernel_rfl) (by kernel_rfl) (by kernel_rfl) (fun _ _ _ h => h) (.inl ⟨by rfl, fun w'' hS => by have q0 := (HEV.out _ hS).1; go_simp⟩) hS0 ?_
                      (simp only [List.setIfInBounds_toArray, List.set_cons_zero, List.set_cons_succ])
                      refine anyH_take 13 53 (.int .i64 d) rfl rfl (by kernel_rfl) (by kernel_rfl) (by kernel_rfl) (fun _ _ _ h => h) (.inl ⟨by rfl, fun w'' hS => by go_simp⟩) hS0 ?_
                      (simp only [List.setIfInBounds_toArray, List.set_cons_zero, List.set_cons_succ])
                      refine anyH_take 14 54 (.bool false) rfl rfl (by kernel_rfl) (by kernel_rfl) (by kernel_rfl) (fun _ _ _ h => h) (.inl ⟨by rfl, fun w'' hS => by have q0 := Q2.out; go_simp⟩) hS0 ?_
                      (simp only [List.setIfInBounds_toArray, List.set_cons_zero, List.set_cons_succ])
                      refine anyH_take 15 55 (.bool false) rfl rfl (by kernel_rfl) (by kernel_rfl) (by kernel_rfl) (fun _ _ _ h => h) (.inl ⟨by rfl, fun w'' hS => by go_simp⟩) hS0 ?_
                      (simp only [List.setIfInBounds_toArray, List.set_cons_zero, List.set_cons_succ])
                      refine anyH_take 16 56 (.bool false) rfl rfl (by kernel_rfl) (by kernel_rfl) (by kernel_rfl) (fun _ _ _ h => h) (.inl ⟨by rfl, fun w'' hS => by go_simp⟩) hS0 ?_
                      (simp only [List.setIfInBounds_toArray, List.set_cons_zero, List.set_cons_succ])
                      refine anyH_take 17 57 (.pointer (some ⟨ge, 0, none⟩)) rfl rfl (by kernel_rfl) (by kernel_rfl) (by kernel_rfl) (fun _ _ _ h => h) (.inl ⟨by rfl, fun w'' hS => by go_simp⟩) hS0 ?_
                      (simp only [List.setIfInBounds_toArray, List.set_cons_zero, List.set_cons_succ])
                      refine anyH_take 18 58 (.int .i64 xd) rfl rfl (by kernel_rfl) (by kernel_rfl) (by kernel_rfl) (fun _ _ _ h => h) (.inl ⟨by rfl, fun w'' hS => by have q0 := (HEV.out _ hS).1; go_simp⟩) hS0 ?_
                      (simp only [List.setIfInBounds_toArray, List.set_cons_zero, List.set_cons_succ])
                      refine anyH_take 19 59 (.bool false) rfl rfl (by kernel_rfl) (by kernel_rfl) (by kernel_rfl) (fun _ _ _ h => h) (.inl ⟨by rfl, fun w'' hS => by have q0 := Q3.out; go_simp⟩) hS0 ?_
                      (simp only [List.setIfInBounds_toArray, List.set_cons_zero, List.set_cons_succ])
                      refine anyH_take 20 60 (.bool false) rfl rfl (by kernel_rfl) (by kernel_rfl) (by kernel_rfl) (fun _ _ _ h => h) (.inl ⟨by rfl, fun w'' hS => by go_simp⟩) hS0 ?_
                      (simp only [List.setIfInBounds_toArray, List.set_cons_zero, List.set_cons_succ])
                      refine anyH_take 21 61 (.bool false) rfl rfl (by kernel_rfl) (by kernel_rfl) (by kernel_rfl) (fun _ _ _ h => h) (.inl ⟨by rfl, fun w'' hS => by go_simp⟩) hS0 ?_
                      (simp only [List.setIfInBounds_toArray, List.set_cons_zero, List.set_cons_succ])
                      refine anyH_take 22 62 (.pointer (some ⟨ge, 2, none⟩)) rfl rfl (by kernel_rfl) (by kernel_rfl) (by kernel_rfl) (fun _ _ _ h => h) (.inl ⟨by rfl, fun w'' hS => by go_simp⟩) hS0 ?_
                      (simp only [List.setIfInBounds_toArray, List.set_cons_zero, List.set_cons_succ])
                      refine anyH_take 23 63 (.int .i64 xf) rfl rfl (by kernel_rfl) (by kernel_rfl) (by kernel_rfl) (fun _ _ _ h => h) (.inl ⟨by rfl, fun w'' hS => by have q0 := (HEV.out _ hS).2.2.1; go_simp⟩) hS0 ?_
                      (simp only [List.setIfInBounds_toArray, List.set_cons_zero, List.set_cons_succ])
                      refine anyH_take 24 64 (.slice (some ⟨gN, 0, none⟩) k cp) rfl rfl (by kernel_rfl) (by kernel_rfl) (by kernel_rfl) (fun _ _ _ h => h) (.inl ⟨by rfl, fun w'' hS => by go_simp⟩) hS0 ?_
                      (simp only [List.setIfInBounds_toArray, List.set_cons_zero, List.set_cons_succ])
                      refine anyH_take 25 65 (.pointer (some ⟨ge, 1, none⟩)) rfl rfl (by kernel_rfl) (by kernel_rfl) (by kernel_rfl) (fun _ _ _ h => h) (.inl ⟨by rfl, fun w'' hS => by go_simp⟩) hS0 ?_
                      (simp only [List.setIfInBounds_toArray, List.set_cons_zero, List.set_cons_succ])
                      refine anyH_take 26 66 (.int .i64 xc) rfl rfl (by kernel_rfl) (by kernel_rfl) (by kernel_rfl) (fun _ _ _ h => h) (.inl ⟨by rfl, fun w'' hS => by have q0 := (HEV.out _ hS).2.1; go_simp⟩) hS0 ?_
                      (simp only [List.setIfInBounds_toArray, List.set_cons_zero, List.set_cons_succ])
                      refine anyH_take 27 67 (.int .i64 (m : Nat)) rfl rfl (by kernel_rfl) (by kernel_rfl) (by kernel_rfl) (fun _ _ _ h => h) (.inl ⟨by rfl, fun w'' hS => by have q0 := HM.out.1; have q1 := HM.out.2.1; go_simp⟩) hS0 ?_
                      (simp only [List.setIfInBounds_toArray, List.set_cons_zero, List.set_cons_succ])
                      refine anyH_take 28 68 (.pointer (some ⟨gN, m, none⟩)) rfl rfl (by kernel_rfl) (by kernel_rfl) (by kernel_rfl) (fun _ _ _ h => h) (.inl ⟨by rfl, fun w'' hS => by have q0 := HM.out.2.2.1; have q1 := HM.out.2.2.2; go_simp⟩) hS0 ?_
                      (simp only [List.setIfInBounds_toArray, List.set_cons_zero, List.set_cons_succ])
                      refine anyH_take 29 69 (.int .i64 nm) rfl rfl (by kernel_rfl) (by kernel_rfl) (by kernel_rfl) (fun _ _ _ h => h) (.inl ⟨by rfl, fun w'' hS => by have q0 := HNM.out _ hS; go_simp⟩) hS0 ?_
                      (simp only [List.setIfInBounds_toArray, List.set_cons_zero, List.set_cons_succ])
                      refine anyH_take 30 70 (.bool false) rfl rfl (by kernel_rfl) (by kernel_rfl) (by kernel_rfl) (fun _ _ _ h => h) (.inl ⟨by rfl, fun w'' hS => by have q0 := Q4.out; go_simp⟩) hS0 ?_
                      (simp only [List.setIfInBounds_toArray, List.set_cons_zero, List.set_cons_succ])
                      refine anyH_take 31 71 (.bool false) rfl rfl (by kernel_rfl) (by kernel_rfl) (by kernel_rfl) (fun _ _ _ h => h) (.inl ⟨by rfl, fun w'' hS => by go_simp⟩) hS0 ?_
                      (simp only [List.setIfInBounds_toArray, List.set_cons_zero, List.set_cons_succ])
                      refine anyH_take 32 72 (.bool false) rfl rfl (by kernel_rfl) (by kernel_rfl) (by kernel_rfl) (fun _ _ _ h => h) (.inl ⟨by rfl, fun w'' hS => by go_simp⟩) hS0 ?_
                      (simp only [List.setIfInBounds_toArray, List.set_cons_zero, List.set_cons_succ])
                      refine anyH_take 33 73 (.pointer (some ⟨ge, 2, none⟩)) rfl rfl (by kernel_rfl) (by kernel_rfl) (by kernel_rfl) (fun _ _ _ h => h) (.inl ⟨by rfl, fun w'' hS => by go_simp⟩) hS0 ?_
                      (simp only [List.setIfInBounds_toArray, List.set_cons_zero, List.set_cons_succ])
                      refine anyH_take 34 74 (.int .i64 xf) rfl rfl (by kernel_rfl) (by kernel_rfl) (by kernel_rfl) (fun _ _ _ h => h) (.inl ⟨by rfl, fun w'' hS => by have q0 := (HEV.out _ hS).2.2.1; go_simp⟩) hS0 ?_
                      (simp only [List.setIfInBounds_toArray, List.set_cons_zero, List.set_cons_succ])
                      refine anyH_take 35 75 (.pointer (some ⟨ge, 3, none⟩)) rfl rfl (by kernel_rfl) (by kernel_rfl) (by kernel_rfl) (fun _ _ _ h => h) (.inl ⟨by rfl, fun w'' hS => by go_simp⟩) hS0 ?_
                      (simp only [List.setIfInBounds_toArray, List.set_cons_zero, List.set_cons_succ])
                      refine anyH_take 36 76 (.int .i64 xt) rfl rfl (by kernel_rfl) (by kernel_rfl) (by kernel_rfl) (fun _ _ _ h => h) (.inl ⟨by rfl, fun w'' hS => by have q0 := (HEV.out _ hS).2.2.2; go_simp⟩) hS0 ?_
                      (simp only [List.setIfInBounds_toArray, List.set_cons_zero, List.set_cons_succ])
                      refine anyH_one 37 77 (.bool false) (by kernel_rfl) (tame_call 77 rfl rfl (by rfl) (fun w'' hS => by go_simp) (fun w'' hS => ((HLD.out w'').mono fun e w3 he => ⟨he.1, hS.trans he.2 (fun _ _ q => q)⟩))) hS0 (fun wq0 hS0 => ?_)
                      (simp only [List.setIfInBounds_toArray, List.set_cons_zero, List.set_cons_succ])
                      refine anyH_take 38 78 (.bool true) rfl rfl (by kernel_rfl) (by kernel_rfl) (by kernel_rfl) (fun _ _ _ h => h) (.inl ⟨by rfl, fun w'' hS => by go_simp⟩) hS0 ?_
                      (simp only [List.setIfInBounds_toArray, List.set_cons_zero, List.set_cons_succ])
                      refine anyH_take 39 79 (.bool true) rfl rfl (by kernel_rfl) (by kernel_rfl) (by kernel_rfl) (fun _ _ _ h => h) (.inl ⟨by rfl, fun w'' hS => by go_simp⟩) hS0 ?_
                      (simp only [List.setIfInBounds_toArray, List.set_cons_zero, List.set_cons_succ])
                      refine wpAnyH_done (by kernel_rfl) ?_ _
                      have HF2 := Lib.hid hS0
                      clear hS0
                      go_wp2_with fail
                      go_ret2
                      exact ⟨_, rfl, (RowS.nil _ 0).ints, HB.out.1.trans (HF1.out.trans HF2.out (fun _ _ q => q)) (fun _ _ q => q)⟩
                    | true =>
                      rw [c5] at HLD
                      have hev : evOn till (now, was, d) ⟨xd, xc, xf, xt⟩ = some (now.set m xt, if xd ≤ till then was.set m xt else was, xd) := by
                        unfold evOn
                        rw [if_pos]
                        · simp only
                          rw [HMN.out]
                        · refine ⟨HXM.out.1, ?_, HXM.out.2.2.1, HXM.out.2.2.2.1, ?_, c5⟩
                          · show xc ≤ (now.length : Int)
                            rw [HNL.out.1]
                            exact HXM.out.2.1
                          · show now[(xc - 1).toNat]? = some xf
                            rw [HMN.out, HXM.out.2.2.2.2.2.2.1, HC4.out]
                      have hst := HST.out
                      rw [hev] at hst
                      have HEV2 := Lib.hid hst
                      clear hst hev HST HTN c5
                      go_wp2_with fail
                      refine wp_region_held_drew (S := fun w' => Fr (fun _ => False) W1 w') (by kernel_rfl) ((Fr.refl _ W1).drew) (fun hS0 => ?_)
                      refine anyH_take 0 40 (.pointer (some ⟨ge, 1, none⟩)) rfl rfl (by kernel_rfl) (by kernel_rfl) (by kernel_rfl) (fun _ _ _ h => h) (.inl ⟨by rfl, fun w'' hS => by go_simp⟩) hS0 ?_
                      (simp only [List.setIfInBounds_toArray, List.set_cons_zero, List.set_cons_succ])
                      refine anyH_take 1 41 (.int .i64 xc) rfl rfl (by kernel_rfl) (by kernel_rfl) (by kernel_rfl) (fun _ _ _ h => h) (.inl ⟨by rfl, fun w'' hS => by have q0 := (HEV.out _ hS).2.1; go_simp⟩) hS0 ?_
                      (simp only [List.setIfInBounds_toArray, List.set_cons_zero, List.set_cons_succ])
                      refine anyH_take 2 42 (.bool false) rfl rfl (by kernel_rfl) (by kernel_rfl) (by kernel_rfl) (fun _ _ _ h => h) (.inl ⟨by rfl, fun w'' hS => by have q0 := Q0.out; go_simp⟩) hS0 ?_
                      (simp only [List.setIfInBounds_toArray, List.set_cons_zero, List.set_cons_succ])
                      refine anyH_take 3 43 (.bool false) rfl rfl (by kernel_rfl) (by kernel_rfl) (by kernel_rfl) (fun _ _ _ h => h) (.inl ⟨by rfl, fun w'' hS => by go_simp⟩) hS0 ?_
                      (simp only [List.setIfInBounds_toArray, List.set_cons_zero, List.set_cons_succ])
                      refine anyH_take 4 44 (.pointer (some ⟨ge, 1, none⟩)) rfl rfl (by kernel_rfl) (by kernel_rfl) (by kernel_rfl) (fun _ _ _ h => h) (.inl ⟨by rfl, fun w'' hS => by go_simp⟩) hS0 ?_
                      (simp only [List.setIfInBounds_toArray, List.set_cons_zero, List.set_cons_succ])
                      refine anyH_take 5 45 (.int .i64 xc) rfl rfl (by kernel_rfl) (by kernel_rfl) (by kernel_rfl) (fun _ _ _ h => h) (.inl ⟨by rfl, fun w'' hS => by have q0 := (HEV.out _ hS).2.1; go_simp⟩) hS0 ?_
                      (simp only [List.setIfInBounds_toArray, List.set_cons_zero, List.set_cons_succ])
                      refine anyH_take 6 46 (.slice (some ⟨gN, 0, none⟩) k cp) rfl rfl (by kernel_rfl) (by kernel_rfl) (by kernel_rfl) (fun _ _ _ h => h) (.inl ⟨by rfl, fun w'' hS => by go_simp⟩) hS0 ?_
                      (simp only [List.setIfInBounds_toArray, List.set_cons_zero, List.set_cons_succ])
                      refine anyH_take 7 47 (.int .i64 (k : Nat)) rfl rfl (by kernel_rfl) (by kernel_rfl) (by kernel_rfl) (fun _ _ _ h => h) (.inl ⟨by rfl, fun w'' hS => by go_simp⟩) hS0 ?_
                      (simp only [List.setIfInBounds_toArray, List.set_cons_zero, List.set_cons_succ])
                      refine anyH_take 8 48 (.bool false) rfl rfl (by kernel_rfl) (by kernel_rfl) (by kernel_rfl) (fun _ _ _ h => h) (.inl ⟨by rfl, fun w'' hS => by have q0 := Q1.out; go_simp⟩) hS0 ?_
                      (simp only [List.setIfInBounds_toArray, List.set_cons_zero, List.set_cons_succ])
                      refine anyH_take 9 49 (.bool false) rfl rfl (by kernel_rfl) (by kernel_rfl) (by kernel_rfl) (fun _ _ _ h => h) (.inl ⟨by rfl, fun w'' hS => by go_simp⟩) hS0 ?_
                      (simp only [List.setIfInBounds_toArray, List.set_cons_zero, List.set_cons_succ])
                      refine anyH_take 10 50 (.bool false) rfl rfl (by kernel_rfl) (by kernel_rfl) (by kernel_rfl) (fun _ _ _ h => h) (.inl ⟨by rfl, fun w'' hS => by go_simp⟩) hS0 ?_
                      (simp only [List.setIfInBounds_toArray, List.set_cons_zero, List.set_cons_succ])
                      refine anyH_take 11 51 (.pointer (some ⟨ge, 0, none⟩)) rfl rfl (by kernel_rfl) (by kernel_rfl) (by kernel_rfl) (fun _ _ _ h => h) (.inl ⟨by rfl, fun w'' hS => by go_simp⟩) hS0 ?_
                      (simp only [List.setIfInBounds_toArray, List.set_cons_zero, List.set_cons_succ])
                      refine anyH_take 12 52 (.int .i64 xd) rfl rfl (by kernel_rfl) (by kernel_rfl) (by kernel_rfl) (fun _ _ _ h => h) (.inl ⟨by rfl, fun w'' hS => by have q0 := (HEV.out _ hS).1; go_simp⟩) hS0 ?_
                      (simp only [List.setIfInBounds_toArray, List.set_cons_zero, List.set_cons_succ])
                      refine anyH_take 13 53 (.int .i64 d) rfl rfl (by kernel_rfl) (by kernel_rfl) (by kernel_rfl) (fun _ _ _ h => h) (.inl ⟨by rfl, fun w'' hS => by go_simp⟩) hS0 ?_
                      (simp only [List.setIfInBounds_toArray, List.set_cons_zero, List.set_cons_succ])
                      refine anyH_take 14 54 (.bool false) rfl rfl (by kernel_rfl) (by kernel_rfl) (by kernel_rfl) (fun _ _ _ h => h) (.inl ⟨by rfl, fun w'' hS => by have q0 := Q2.out; go_simp⟩) hS0 ?_
                      (simp only [List.setIfInBounds_toArray, List.set_cons_zero, List.set_cons_succ])
                      refine anyH_take 15 55 (.bool false) rfl rfl (by kernel_rfl) (by kernel_rfl) (by kernel_rfl) (fun _ _ _ h => h) (.inl ⟨by rfl, fun w'' hS => by go_simp⟩) hS0 ?_
                      (simp only [List.setIfInBounds_toArray, List.set_cons_zero, List.set_cons_succ])
                      refine anyH_take 16 56 (.bool false) rfl rfl (by kernel_rfl) (by kernel_rfl) (by kernel_rfl) (fun _ _ _ h => h) (.inl ⟨by rfl, fun w'' hS => by go_simp⟩) hS0 ?_
                      (simp only [List.setIfInBounds_toArray, List.set_cons_zero, List.set_cons_succ])
                      refine anyH_take 17 57 (.pointer (some ⟨ge, 0, none⟩)) rfl rfl (by kernel_rfl) (by kernel_rfl) (by kernel_rfl) (fun _ _ _ h => h) (.inl ⟨by rfl, fun w'' hS => by go_simp⟩) hS0 ?_
                      (simp only [List.setIfInBounds_toArray, List.set_cons_zero, List.set_cons_succ])
                      refine anyH_take 18 58 (.int .i64 xd) rfl rfl (by kernel_rfl) (by kernel_rfl) (by kernel_rfl) (fun _ _ _ h => h) (.inl ⟨by rfl, fun w'' hS => by have q0 := (HEV.out _ hS).1; go_simp⟩) hS0 ?_
                      (simp only [List.setIfInBounds_toArray, List.set_cons_zero, List.set_cons_succ])
                      refine anyH_take 19 59 (.bool false) rfl rfl (by kernel_rfl) (by kernel_rfl) (by kernel_rfl) (fun _ _ _ h => h) (.inl ⟨by rfl, fun w'' hS => by have q0 := Q3.out; go_simp⟩) hS0 ?_
                      (simp only [List.setIfInBounds_toArray, List.set_cons_zero, List.set_cons_succ])
                      refine anyH_take 20 60 (.bool false) rfl rfl (by kernel_rfl) (by kernel_rfl) (by kernel_rfl) (fun _ _ _ h => h) (.inl ⟨by rfl, fun w'' hS => by go_simp⟩) hS0 ?_
                      (simp only [List.setIfInBounds_toArray, List.set_cons_zero, List.set_cons_succ])
                      refine anyH_take 21 61 (.bool false) rfl rfl (by kernel_rfl) (by kernel_rfl) (by kernel_rfl) (fun _ _ _ h => h) (.inl ⟨by rfl, fun w'' hS => by go_simp⟩) hS0 ?_
                      (simp only [List.setIfInBounds_toArray, List.set_cons_zero, List.set_cons_succ])
                      refine anyH_take 22 62 (.pointer (some ⟨ge, 2, none⟩)) rfl rfl (by kernel_rfl) (by kernel_rfl) (by kernel_rfl) (fun _ _ _ h => h) (.inl ⟨by rfl, fun w'' hS => by go_simp⟩) hS0 ?_
                      (simp only [List.setIfInBounds_toArray, List.set_cons_zero, List.set_cons_succ])
                      refine anyH_take 23 63 (.int .i64 xf) rfl rfl (by kernel_rfl) (by kernel_rfl) (by kernel_rfl) (fun _ _ _ h => h) (.inl ⟨by rfl, fun w'' hS => by have q0 := (HEV.out _ hS).2.2.1; go_simp⟩) hS0 ?_
                      (simp only [List.setIfInBounds_toArray, List.set_cons_zero, List.set_cons_succ])
                      refine anyH_take 24 64 (.slice (some ⟨gN, 0, none⟩) k cp) rfl rfl (by kernel_rfl) (by kernel_rfl) (by kernel_rfl) (fun _ _ _ h => h) (.inl ⟨by rfl, fun w'' hS => by go_simp⟩) hS0 ?_
                      (simp only [List.setIfInBounds_toArray, List.set_cons_zero, List.set_cons_succ])
                      refine anyH_take 25 65 (.pointer (some ⟨ge, 1, none⟩)) rfl rfl (by kernel_rfl) (by kernel_rfl) (by kernel_rfl) (fun _ _ _ h => h) (.inl ⟨by rfl, fun w'' hS => by go_simp⟩) hS0 ?_
                      (simp only [List.setIfInBounds_toArray, List.set_cons_zero, List.set_cons_succ])
                      refine anyH_take 26 66 (.int .i64 xc) rfl rfl (by kernel_rfl) (by kernel_rfl) (by kernel_rfl) (fun _ _ _ h => h) (.inl ⟨by rfl, fun w'' hS => by have q0 := (HEV.out _ hS).2.1; go_simp⟩) hS0 ?_
                      (simp only [List.setIfInBounds_toArray, List.set_cons_zero, List.set_cons_succ])
                      refine anyH_take 27 67 (.int .i64 (m : Nat)) rfl rfl (by kernel_rfl) (by kernel_rfl) (by kernel_rfl) (fun _ _ _ h => h) (.inl ⟨by rfl, fun w'' hS => by have q0 := HM.out.1; have q1 := HM.out.2.1; go_simp⟩) hS0 ?_
                      (simp only [List.setIfInBounds_toArray, List.set_cons_zero, List.set_cons_succ])
                      refine anyH_take 28 68 (.pointer (some ⟨gN, m, none⟩)) rfl rfl (by kernel_rfl) (by kernel_rfl) (by kernel_rfl) (fun _ _ _ h => h) (.inl ⟨by rfl, fun w'' hS => by have q0 := HM.out.2.2.1; have q1 := HM.out.2.2.2; go_simp⟩) hS0 ?_
                      (simp only [List.setIfInBounds_toArray, List.set_cons_zero, List.set_cons_succ])
                      refine anyH_take 29 69 (.int .i64 nm) rfl rfl (by kernel_rfl) (by kernel_rfl) (by kernel_rfl) (fun _ _ _ h => h) (.inl ⟨by rfl, fun w'' hS => by have q0 := HNM.out _ hS; go_simp⟩) hS0 ?_
                      (simp only [List.setIfInBounds_toArray, List.set_cons_zero, List.set_cons_succ])
                      refine anyH_take 30 70 (.bool false) rfl rfl (by kernel_rfl) (by kernel_rfl) (by kernel_rfl) (fun _ _ _ h => h) (.inl ⟨by rfl, fun w'' hS => by have q0 := Q4.out; go_simp⟩) hS0 ?_
                      (simp only [List.setIfInBounds_toArray, List.set_cons_zero, List.set_cons_succ])
                      refine anyH_take 31 71 (.bool false) rfl rfl (by kernel_rfl) (by kernel_rfl) (by kernel_rfl) (fun _ _ _ h => h) (.inl ⟨by rfl, fun w'' hS => by go_simp⟩) hS0 ?_
                      (simp only [List.setIfInBounds_toArray, List.set_cons_zero, List.set_cons_succ])
                      refine anyH_take 32 72 (.bool false) rfl rfl (by kernel_rfl) (by kernel_rfl) (by kernel_rfl) (fun _ _ _ h => h) (.inl ⟨by rfl, fun w'' hS => by go_simp⟩) hS0 ?_
                      (simp only [List.setIfInBounds_toArray, List.set_cons_zero, List.set_cons_succ])
                      refine anyH_take 33 73 (.pointer (some ⟨ge, 2, none⟩)) rfl rfl (by kernel_rfl) (by kernel_rfl) (by kernel_rfl) (fun _ _ _ h => h) (.inl ⟨by rfl, fun w'' hS => by go_simp⟩) hS0 ?_
                      (simp only [List.setIfInBounds_toArray, List.set_cons_zero, List.set_cons_succ])
                      refine anyH_take 34 74 (.int .i64 xf) rfl rfl (by kernel_rfl) (by kernel_rfl) (by kernel_rfl) (fun _ _ _ h => h) (.inl ⟨by rfl, fun w'' hS => by have q0 := (HEV.out _ hS).2.2.1; go_simp⟩) hS0 ?_
                      (simp only [List.setIfInBounds_toArray, List.set_cons_zero, List.set_cons_succ])
                      refine anyH_take 35 75 (.pointer (some ⟨ge, 3, none⟩)) rfl rfl (by kernel_rfl) (by kernel_rfl) (by kernel_rfl) (fun _ _ _ h => h) (.inl ⟨by rfl, fun w'' hS => by go_simp⟩) hS0 ?_
                      (simp only [List.setIfInBounds_toArray, List.set_cons_zero, List.set_cons_succ])
                      refine anyH_take 36 76 (.int .i64 xt) rfl rfl (by kernel_rfl) (by kernel_rfl) (by kernel_rfl) (fun _ _ _ h => h) (.inl ⟨by rfl, fun w'' hS => by have q0 := (HEV.out _ hS).2.2.2; go_simp⟩) hS0 ?_
                      (simp only [List.setIfInBounds_toArray, List.set_cons_zero, List.set_cons_succ])
                      refine anyH_one 37 77 (.bool true) (by kernel_rfl) (tame_call 77 rfl rfl (by rfl) (fun w'' hS => by go_simp) (fun w'' hS => ((HLD.out w'').mono fun e w3 he => ⟨he.1, hS.trans he.2 (fun _ _ q => q)⟩))) hS0 (fun wq0 hS0 => ?_)
                      (simp only [List.setIfInBounds_toArray, List.set_cons_zero, List.set_cons_succ])
                      refine anyH_take 38 78 (.bool false) rfl rfl (by kernel_rfl) (by kernel_rfl) (by kernel_rfl) (fun _ _ _ h => h) (.inl ⟨by rfl, fun w'' hS => by go_simp⟩) hS0 ?_
                      (simp only [List.setIfInBounds_toArray, List.set_cons_zero, List.set_cons_succ])
                      refine anyH_take 39 79 (.bool false) rfl rfl (by kernel_rfl) (by kernel_rfl) (by kernel_rfl) (fun _ _ _ h => h) (.inl ⟨by rfl, fun w'' hS => by go_simp⟩) hS0 ?_
                      (simp only [List.setIfInBounds_toArray, List.set_cons_zero, List.set_cons_succ])
                      refine wpAnyH_done (by kernel_rfl) ?_ _
                      have HS5 := Lib.hid hS0
                      have HP5 := Lib.hid (HP1.out.keep0 hS0)
                      have HV5 := Lib.hid (HV1.out.keep0 hS0)
                      have HF5 := Lib.hid (HF1.out.trans hS0 (fun _ _ q => q))
                      obtain ⟨ce0, ce1, ce2, ce3⟩ := HEV.out _ hS0
                      have hcn := HNM.out _ hS0
                      have hfn : wq0.frozen? ⟨gN, m, none⟩ = false := HP5.out.frozen
                      have hcq : wq0.cell? ⟨gQ, m, none⟩ = some (.int .i64 wm) := (hS0.cell (World.block_lt_of_cell? W1 _ HXM.out.2.2.2.2.2.2.2.2) (fun q => q)).trans HXM.out.2.2.2.2.2.2.2.2
                      have hfq : wq0.frozen? ⟨gQ, m, none⟩ = false := HV5.out.frozen
                      have hne1 : ¬ gN = ge := by have := HGL.out.1 gN rfl; omega
                      have hne2 : ¬ gQ = ge := by have := HGL.out.2 gQ rfl; omega
                      have hne3 : ¬ gN = gQ := fun e => HN2.out gN rfl (by rw [e]; rfl)
                      have hne4 : ¬ gQ = gN := fun e => hne3 e.symm
                      have q0 := HM.out.1
                      have q1 : wrap64 (m : Int) = (m : Int) := wrap64_id (by have := HM.out; omega) (by have := HM.out; omega)
                      have q2 := HM.out.2.2.1
                      have q3 := HM.out.2.2.2
                      have hPn := Lib.hid (HP5.out.set (i := m) (by rw [HNL.out.1]; exact HXM.out.2.2.2.2.2.1) xt)
                      have hVn := Lib.hid (HV5.out.set' (i := m) (g := gN) (fun e => hne4 (by injection e)) (.int .i64 xt))
                      have hVs := Lib.hid (hVn.out.set (i := m) (by rw [HNL.out.2]; exact HXM.out.2.2.2.2.2.1) xt)
                      have hPs := Lib.hid (hPn.out.set' (i := m) (g := gQ) (fun e => hne3 (by injection e)) (.int .i64 xt))
                      have hFn := Lib.hid (HF5.out.setCell (p := ⟨gN, m, none⟩) (.inr (by have := HP5.out.low (k := gN) rfl; have := HB.out.2.2; show W0.heap.size ≤ gN; omega)) (.int .i64 xt))
                      have hFs := Lib.hid (hFn.out.setCell (p := ⟨gQ, m, none⟩) (.inr (by have := HV5.out.low (k := gQ) rfl; have := HB.out.2.2; show W0.heap.size ≤ gQ; omega)) (.int .i64 xt))
                      clear hS0
                      by_cases hti : xd ≤ till
                      · have HE9 := Lib.hid hti
                        go_wp2_with fail
                        refine ⟨⟨k2 + 1, now.set m xt, was.set m xt, xd, rfl, by go_num, by have := HXY.out.2; omega, Lib.hid (by rw [HEV2.out, if_pos HE9.out]), Lib.hid ⟨hPs.out, by rw [List.length_set]; exact HNL.out.1⟩, Lib.hid ⟨hVs.out, by rw [List.length_set]; exact HNL.out.2⟩, hFs⟩, ?_⟩
                        simp [intOf]
                        have := HXY.out.2
                        omega
                      · have HE9 := Lib.hid hti
                        go_wp2_with fail
                        refine ⟨⟨k2 + 1, now.set m xt, was, xd, rfl, by go_num, by have := HXY.out.2; omega, Lib.hid (by rw [HEV2.out, if_neg HE9.out]), Lib.hid ⟨hPn.out, by rw [List.length_set]; exact HNL.out.1⟩, Lib.hid ⟨hVn.out, HNL.out.2⟩, hFn⟩, ?_⟩
                        simp [intOf]
                        have := HXY.out.2
                        omega
                  · have Q4 : Hid ((xf != nm) = true) := Lib.hid (by rw [bne_iff_ne]; exact c4)
                    obtain rfl : r = none := HTN.out (by
                      unfold evOn
                      rw [if_neg]
                      intro q
                      have h5 := q.2.2.2.2.1
                      have h6 := HMN.out
                      simp only at h5
                      rw [h6, HXM.out.2.2.2.2.2.2.1] at h5
                      injection h5 with h5
                      exact c4 h5.symm)
                    clear HTN HST c4
                    go_wp2_with fail
                    refine wp_region_held_drew (S := fun w' => Fr (fun _ => False) W1 w') (by kernel_rfl) ((Fr.refl _ W1).drew) (fun hS0 => ?_)
                    refine anyH_take 0 40 (.pointer (some ⟨ge, 1, none⟩)) rfl rfl (by kernel_rfl) (by kernel_rfl) (by kernel_rfl) (fun _ _ _ h => h) (.inl ⟨by rfl, fun w'' hS => by go_simp⟩) hS0 ?_
                    (simp only [List.setIfInBounds_toArray, List.set_cons_zero, List.set_cons_succ])
                    refine anyH_take 1 41 (.int .i64 xc) rfl rfl (by kernel_rfl) (by kernel_rfl) (by kernel_rfl) (fun _ _ _ h => h) (.inl ⟨by rfl, fun w'' hS => by have q0 := (HEV.out _ hS).2.1; go_simp⟩) hS0 ?_
                    (simp only [List.setIfInBounds_toArray, List.set_cons_zero, List.set_cons_succ])
                    refine anyH_take 2 42 (.bool false) rfl rfl (by kernel_rfl) (by kernel_rfl) (by kernel_rfl) (fun _ _ _ h => h) (.inl ⟨by rfl, fun w'' hS => by have q0 := Q0.out; go_simp⟩) hS0 ?_
                    (simp only [List.setIfInBounds_toArray, List.set_cons_zero, List.set_cons_succ])
                    refine anyH_take 3 43 (.bool false) rfl rfl (by kernel_rfl) (by kernel_rfl) (by kernel_rfl) (fun _ _ _ h => h) (.inl ⟨by rfl, fun w'' hS => by go_simp⟩) hS0 ?_
                    (simp only [List.setIfInBounds_toArray, List.set_cons_zero, List.set_cons_succ])
                    refine anyH_take 4 44 (.pointer (some ⟨ge, 1, none⟩)) rfl rfl (by kernel_rfl) (by kernel_rfl) (by kernel_rfl) (fun _ _ _ h => h) (.inl ⟨by rfl, fun w'' hS => by go_simp⟩) hS0 ?_
                    (simp only [List.setIfInBounds_toArray, List.set_cons_zero, List.set_cons_succ])
                    refine anyH_take 5 45 (.int .i64 xc) rfl rfl (by kernel_rfl) (by kernel_rfl) (by kernel_rfl) (fun _ _ _ h => h) (.inl ⟨by rfl, fun w'' hS => by have q0 := (HEV.out _ hS).2.1; go_simp⟩) hS0 ?_
                    (simp only [List.setIfInBounds_toArray, List.set_cons_zero, List.set_cons_succ])
                    refine anyH_take 6 46 (.slice (some ⟨gN, 0, none⟩) k cp) rfl rfl (by kernel_rfl) (by kernel_rfl) (by kernel_rfl) (fun _ _ _ h => h) (.inl ⟨by rfl, fun w'' hS => by go_simp⟩) hS0 ?_
                    (simp only [List.setIfInBounds_toArray, List.set_cons_zero, List.set_cons_succ])
                    refine anyH_take 7 47 (.int .i64 (k : Nat)) rfl rfl (by kernel_rfl) (by kernel_rfl) (by kernel_rfl) (fun _ _ _ h => h) (.inl ⟨by rfl, fun w'' hS => by go_simp⟩) hS0 ?_
                    (simp only [List.setIfInBounds_toArray, List.set_cons_zero, List.set_cons_succ])
                    refine anyH_take 8 48 (.bool false) rfl rfl (by kernel_rfl) (by kernel_rfl) (by kernel_rfl) (fun _ _ _ h => h) (.inl ⟨by rfl, fun w'' hS => by have q0 := Q1.out; go_simp⟩) hS0 ?_
                    (simp only [List.setIfInBounds_toArray, List.set_cons_zero, List.set_cons_succ])
                    refine anyH_take 9 49 (.bool false) rfl rfl (by kernel_rfl) (by kernel_rfl) (by kernel_rfl) (fun _ _ _ h => h) (.inl ⟨by rfl, fun w'' hS => by go_simp⟩) hS0 ?_
                    (simp only [List.setIfInBounds_toArray, List.set_cons_zero, List.set_cons_succ])
                    refine anyH_take 10 50 (.bool false) rfl rfl (by kernel_rfl) (by kernel_rfl) (by kernel_rfl) (fun _ _ _ h => h) (.inl ⟨by rfl, fun w'' hS => by go_simp⟩) hS0 ?_
                    (simp only [List.setIfInBounds_toArray, List.set_cons_zero, List.set_cons_succ])
                    refine anyH_take 11 51 (.pointer (some ⟨ge, 0, none⟩)) rfl rfl (by kernel_rfl) (by kernel_rfl) (by kernel_rfl) (fun _ _ _ h => h) (.inl ⟨by rfl, fun w'' hS => by go_simp⟩) hS0 ?_
                    (simp only [List.setIfInBounds_toArray, List.set_cons_zero, List.set_cons_succ])
                    refine anyH_take 12 52 (.int .i64 xd) rfl rfl (by kernel_rfl) (by kernel_rfl) (by kernel_rfl) (fun _ _ _ h => h) (.inl ⟨by rfl, fun w'' hS => by have q0 := (HEV.out _ hS).1; go_simp⟩) hS0 ?_
                    (simp only [List.setIfInBounds_toArray, List.set_cons_zero, List.set_cons_succ])
                    refine anyH_take 13 53 (.int .i64 d) rfl rfl (by kernel_rfl) (by kernel_rfl) (by kernel_rfl) (fun _ _ _ h => h) (.inl ⟨by rfl, fun w'' hS => by go_simp⟩) hS0 ?_
                    (simp only [List.setIfInBounds_toArray, List.set_cons_zero, List.set_cons_succ])
                    refine anyH_take 14 54 (.bool false) rfl rfl (by kernel_rfl) (by kernel_rfl) (by kernel_rfl) (fun _ _ _ h => h) (.inl ⟨by rfl, fun w'' hS => by have q0 := Q2.out; go_simp⟩) hS0 ?_
                    (simp only [List.setIfInBounds_toArray, List.set_cons_zero, List.set_cons_succ])
                    refine anyH_take 15 55 (.bool false) rfl rfl (by kernel_rfl) (by kernel_rfl) (by kernel_rfl) (fun _ _ _ h => h) (.inl ⟨by rfl, fun w'' hS => by go_simp⟩) hS0 ?_
                    (simp only [List.setIfInBounds_toArray, List.set_cons_zero, List.set_cons_succ])
                    refine anyH_take 16 56 (.bool false) rfl rfl (by kernel_rfl) (by kernel_rfl) (by kernel_rfl) (fun _ _ _ h => h) (.inl ⟨by rfl, fun w'' hS => by go_simp⟩) hS0 ?_
                    (simp only [List.setIfInBounds_toArray, List.set_cons_zero, List.set_cons_succ])
                    refine anyH_take 17 57 (.pointer (some ⟨ge, 0, none⟩)) rfl rfl (by kernel_rfl) (by kernel_rfl) (by kernel_rfl) (fun _ _ _ h => h) (.inl ⟨by rfl, fun w'' hS => by go_simp⟩) hS0 ?_
                    (simp only [List.setIfInBounds_toArray, List.set_cons_zero, List.set_cons_succ])
                    refine anyH_take 18 58 (.int .i64 xd) rfl rfl (by kernel_rfl) (by kernel_rfl) (by kernel_rfl) (fun _ _ _ h => h) (.inl ⟨by rfl, fun w'' hS => by have q0 := (HEV.out _ hS).1; go_simp⟩) hS0 ?_
                    (simp only [List.setIfInBounds_toArray, List.set_cons_zero, List.set_cons_succ])
                    refine anyH_take 19 59 (.bool false) rfl rfl (by kernel_rfl) (by kernel_rfl) (by kernel_rfl) (fun _ _ _ h => h) (.inl ⟨by rfl, fun w'' hS => by have q0 := Q3.out; go_simp⟩) hS0 ?_
                    (simp only [List.setIfInBounds_toArray, List.set_cons_zero, List.set_cons_succ])
                    refine anyH_take 20 60 (.bool false) rfl rfl (by kernel_rfl) (by kernel_rfl) (by kernel_rfl) (fun _ _ _ h => h) (.inl ⟨by rfl, fun w'' hS => by go_simp⟩) hS0 ?_
                    (simp only [List.setIfInBounds_toArray, List.set_cons_zero, List.set_cons_succ])
                    refine anyH_take 21 61 (.bool false) rfl rfl (by kernel_rfl) (by kernel_rfl) (by kernel_rfl) (fun _ _ _ h => h) (.inl ⟨by rfl, fun w'' hS => by go_simp⟩) hS0 ?_
                    (simp only [List.setIfInBounds_toArray, List.set_cons_zero, List.set_cons_succ])
                    refine anyH_take 22 62 (.pointer (some ⟨ge, 2, none⟩)) rfl rfl (by kernel_rfl) (by kernel_rfl) (by kernel_rfl) (fun _ _ _ h => h) (.inl ⟨by rfl, fun w'' hS => by go_simp⟩) hS0 ?_
                    (simp only [List.setIfInBounds_toArray, List.set_cons_zero, List.set_cons_succ])
                    refine anyH_take 23 63 (.int .i64 xf) rfl rfl (by kernel_rfl) (by kernel_rfl) (by kernel_rfl) (fun _ _ _ h => h) (.inl ⟨by rfl, fun w'' hS => by have q0 := (HEV.out _ hS).2.2.1; go_simp⟩) hS0 ?_
                    (simp only [List.setIfInBounds_toArray, List.set_cons_zero, List.set_cons_succ])
                    refine anyH_take 24 64 (.slice (some ⟨gN, 0, none⟩) k cp) rfl rfl (by kernel_rfl) (by kernel_rfl) (by kernel_rfl) (fun _ _ _ h => h) (.inl ⟨by rfl, fun w'' hS => by go_simp⟩) hS0 ?_
                    (simp only [List.setIfInBounds_toArray, List.set_cons_zero, List.set_cons_succ])
                    refine anyH_take 25 65 (.pointer (some ⟨ge, 1, none⟩)) rfl rfl (by kernel_rfl) (by kernel_rfl) (by kernel_rfl) (fun _ _ _ h => h) (.inl ⟨by rfl, fun w'' hS => by go_simp⟩) hS0 ?_
                    (simp only [List.setIfInBounds_toArray, List.set_cons_zero, List.set_cons_succ])
                    refine anyH_take 26 66 (.int .i64 xc) rfl rfl (by kernel_rfl) (by kernel_rfl) (by kernel_rfl) (fun _ _ _ h => h) (.inl ⟨by rfl, fun w'' hS => by have q0 := (HEV.out _ hS).2.1; go_simp⟩) hS0 ?_
                    (simp only [List.setIfInBounds_toArray, List.set_cons_zero, List.set_cons_succ])
                    refine anyH_take 27 67 (.int .i64 (m : Nat)) rfl rfl (by kernel_rfl) (by kernel_rfl) (by kernel_rfl) (fun _ _ _ h => h) (.inl ⟨by rfl, fun w'' hS => by have q0 := HM.out.1; have q1 := HM.out.2.1; go_simp⟩) hS0 ?_
                    (simp only [List.setIfInBounds_toArray, List.set_cons_zero, List.set_cons_succ])
                    refine anyH_take 28 68 (.pointer (some ⟨gN, m, none⟩)) rfl rfl (by kernel_rfl) (by kernel_rfl) (by kernel_rfl) (fun _ _ _ h => h) (.inl ⟨by rfl, fun w'' hS => by have q0 := HM.out.2.2.1; have q1 := HM.out.2.2.2; go_simp⟩) hS0 ?_
                    (simp only [List.setIfInBounds_toArray, List.set_cons_zero, List.set_cons_succ])
                    refine anyH_take 29 69 (.int .i64 nm) rfl rfl (by kernel_rfl) (by kernel_rfl) (by kernel_rfl) (fun _ _ _ h => h) (.inl ⟨by rfl, fun w'' hS => by have q0 := HNM.out _ hS; go_simp⟩) hS0 ?_
                    (simp only [List.setIfInBounds_toArray, List.set_cons_zero, List.set_cons_succ])
                    refine anyH_take 30 70 (.bool true) rfl rfl (by kernel_rfl) (by kernel_rfl) (by kernel_rfl) (fun _ _ _ h => h) (.inl ⟨by rfl, fun w'' hS => by have q0 := Q4.out; go_simp⟩) hS0 ?_
                    (simp only [List.setIfInBounds_toArray, List.set_cons_zero, List.set_cons_succ])
                    refine anyH_take 31 71 (.bool true) rfl rfl (by kernel_rfl) (by kernel_rfl) (by kernel_rfl) (fun _ _ _ h => h) (.inl ⟨by rfl, fun w'' hS => by go_simp⟩) hS0 ?_
                    (simp only [List.setIfInBounds_toArray, List.set_cons_zero, List.set_cons_succ])
                    refine anyH_take 32 72 (.bool true) rfl rfl (by kernel_rfl) (by kernel_rfl) (by kernel_rfl) (fun _ _ _ h => h) (.inl ⟨by rfl, fun w'' hS => by go_simp⟩) hS0 ?_
                    (simp only [List.setIfInBounds_toArray, List.set_cons_zero, List.set_cons_succ])
                    refine anyH_take 33 73 undef rfl rfl (by kernel_rfl) (by kernel_rfl) (by kernel_rfl) (fun _ _ _ h => h) (.inr ⟨by rfl, rfl⟩) hS0 ?_
                    (simp only [List.setIfInBounds_toArray, List.set_cons_zero, List.set_cons_succ])
                    refine anyH_take 34 74 undef rfl rfl (by kernel_rfl) (by kernel_rfl) (by kernel_rfl) (fun _ _ _ h => h) (.inr ⟨by rfl, rfl⟩) hS0 ?_
                    (simp only [List.setIfInBounds_toArray, List.set_cons_zero, List.set_cons_succ])
                    refine anyH_take 35 75 undef rfl rfl (by kernel_rfl) (by kernel_rfl) (by kernel_rfl) (fun _ _ _ h => h) (.inr ⟨by rfl, rfl⟩) hS0 ?_
                    (simp only [List.setIfInBounds_toArray, List.set_cons_zero, List.set_cons_succ])
                    refine anyH_take 36 76 undef rfl rfl (by kernel_rfl) (by kernel_rfl) (by kernel_rfl) (fun _ _ _ h => h) (.inr ⟨by rfl, rfl⟩) hS0 ?_
                    (simp only [List.setIfInBounds_toArray, List.set_cons_zero, List.set_cons_succ])
                    refine anyH_take 37 77 undef rfl rfl (by kernel_rfl) (by kernel_rfl) (by kernel_rfl) (fun _ _ _ h => h) (.inr ⟨by rfl, rfl⟩) hS0 ?_
                    (simp only [List.setIfInBounds_toArray, List.set_cons_zero, List.set_cons_succ])
                    refine anyH_take 38 78 undef rfl rfl (by kernel_rfl) (by kernel_rfl) (by kernel_rfl) (fun _ _ _ h => h) (.inr ⟨by rfl, rfl⟩) hS0 ?_
                    (simp only [List.setIfInBounds_toArray, List.set_cons_zero, List.set_cons_succ])
                    refine anyH_take 39 79 (.bool true) rfl rfl (by kernel_rfl) (by kernel_rfl) (by kernel_rfl) (fun _ _ _ h => h) (.inl ⟨by rfl, fun w'' hS => by go_simp⟩) hS0 ?_
                    (simp only [List.setIfInBounds_toArray, List.set_cons_zero, List.set_cons_succ])
                    refine wpAnyH_done (by kernel_rfl) ?_ _
                    have HF2 := Lib.hid hS0
                    clear hS0
                    go_wp2_with fail
                    go_ret2
                    exact ⟨_, rfl, (RowS.nil _ 0).ints, HB.out.1.trans (HF1.out.trans HF2.out (fun _ _ q => q)) (fun _ _ q => q)⟩
                · have Q3 : Hid (1000000 < xd) := Lib.hid (by omega)
                  obtain rfl : r = none := HTN.out (by
                    unfold evOn
                    rw [if_neg]
                    intro q
                    exact absurd q.2.2.2.1 (by have := Q3.out; show ¬ xd ≤ 1000000; omega))
                  clear HTN HST
                  go_wp2_with fail
                  refine wp_region_held_drew (S := fun w' => Fr (fun _ => False) W1 w') (by kernel_rfl) ((Fr.refl _ W1).drew) (fun hS0 => ?_)
                  refine anyH_take 0 40 (.pointer (some ⟨ge, 1, none⟩)) rfl rfl (by kernel_rfl) (by kernel_rfl) (by kernel_rfl) (fun _ _ _ h => h) (.inl ⟨by rfl, fun w'' hS => by go_simp⟩) hS0 ?_
                  (simp only [List.setIfInBounds_toArray, List.set_cons_zero, List.set_cons_succ])
                  refine anyH_take 1 41 (.int .i64 xc) rfl rfl (by kernel_rfl) (by kernel_rfl) (by kernel_rfl) (fun _ _ _ h => h) (.inl ⟨by rfl, fun w'' hS => by have q0 := (HEV.out _ hS).2.1; go_simp⟩) hS0 ?_
                  (simp only [List.setIfInBounds_toArray, List.set_cons_zero, List.set_cons_succ])
                  refine anyH_take 2 42 (.bool false) rfl rfl (by kernel_rfl) (by kernel_rfl) (by kernel_rfl) (fun _ _ _ h => h) (.inl ⟨by rfl, fun w'' hS => by have q0 := Q0.out; go_simp⟩) hS0 ?_
                  (simp only [List.setIfInBounds_toArray, List.set_cons_zero, List.set_cons_succ])
                  refine anyH_take 3 43 (.bool false) rfl rfl (by kernel_rfl) (by kernel_rfl) (by kernel_rfl) (fun _ _ _ h => h) (.inl ⟨by rfl, fun w'' hS => by go_simp⟩) hS0 ?_
                  (simp only [List.setIfInBounds_toArray, List.set_cons_zero, List.set_cons_succ])
                  refine anyH_take 4 44 (.pointer (some ⟨ge, 1, none⟩)) rfl rfl (by kernel_rfl) (by kernel_rfl) (by kernel_rfl) (fun _ _ _ h => h) (.inl ⟨by rfl, fun w'' hS => by go_simp⟩) hS0 ?_
                  (simp only [List.setIfInBounds_toArray, List.set_cons_zero, List.set_cons_succ])
                  refine anyH_take 5 45 (.int .i64 xc) rfl rfl (by kernel_rfl) (by kernel_rfl) (by kernel_rfl) (fun _ _ _ h => h) (.inl ⟨by rfl, fun w'' hS => by have q0 := (HEV.out _ hS).2.1; go_simp⟩) hS0 ?_
                  (simp only [List.setIfInBounds_toArray, List.set_cons_zero, List.set_cons_succ])
                  refine anyH_take 6 46 (.slice Ap k cp) rfl rfl (by kernel_rfl) (by kernel_rfl) (by kernel_rfl) (fun _ _ _ h => h) (.inl ⟨by rfl, fun w'' hS => by go_simp⟩) hS0 ?_
                  (simp only [List.setIfInBounds_toArray, List.set_cons_zero, List.set_cons_succ])
                  refine anyH_take 7 47 (.int .i64 (k : Nat)) rfl rfl (by kernel_rfl) (by kernel_rfl) (by kernel_rfl) (fun _ _ _ h => h) (.inl ⟨by rfl, fun w'' hS => by go_simp⟩) hS0 ?_
                  (simp only [List.setIfInBounds_toArray, List.set_cons_zero, List.set_cons_succ])
                  refine anyH_take 8 48 (.bool false) rfl rfl (by kernel_rfl) (by kernel_rfl) (by kernel_rfl) (fun _ _ _ h => h) (.inl ⟨by rfl, fun w'' hS => by have q0 := Q1.out; go_simp⟩) hS0 ?_
                  (simp only [List.setIfInBounds_toArray, List.set_cons_zero, List.set_cons_succ])
                  refine anyH_take 9 49 (.bool false) rfl rfl (by kernel_rfl) (by kernel_rfl) (by kernel_rfl) (fun _ _ _ h => h) (.inl ⟨by rfl, fun w'' hS => by go_simp⟩) hS0 ?_
                  (simp only [List.setIfInBounds_toArray, List.set_cons_zero, List.set_cons_succ])
                  refine anyH_take 10 50 (.bool false) rfl rfl (by kernel_rfl) (by kernel_rfl) (by kernel_rfl) (fun _ _ _ h => h) (.inl ⟨by rfl, fun w'' hS => by go_simp⟩) hS0 ?_
                  (simp only [List.setIfInBounds_toArray, List.set_cons_zero, List.set_cons_succ])
                  refine anyH_take 11 51 (.pointer (some ⟨ge, 0, none⟩)) rfl rfl (by kernel_rfl) (by kernel_rfl) (by kernel_rfl) (fun _ _ _ h => h) (.inl ⟨by rfl, fun w'' hS => by go_simp⟩) hS0 ?_
                  (simp only [List.setIfInBounds_toArray, List.set_cons_zero, List.set_cons_succ])
                  refine anyH_take 12 52 (.int .i64 xd) rfl rfl (by kernel_rfl) (by kernel_rfl) (by kernel_rfl) (fun _ _ _ h => h) (.inl ⟨by rfl, fun w'' hS => by have q0 := (HEV.out _ hS).1; go_simp⟩) hS0 ?_
                  (simp only [List.setIfInBounds_toArray, List.set_cons_zero, List.set_cons_succ])
                  refine anyH_take 13 53 (.int .i64 d) rfl rfl (by kernel_rfl) (by kernel_rfl) (by kernel_rfl) (fun _ _ _ h => h) (.inl ⟨by rfl, fun w'' hS => by go_simp⟩) hS0 ?_
                  (simp only [List.setIfInBounds_toArray, List.set_cons_zero, List.set_cons_succ])
                  refine anyH_take 14 54 (.bool false) rfl rfl (by kernel_rfl) (by kernel_rfl) (by kernel_rfl) (fun _ _ _ h => h) (.inl ⟨by rfl, fun w'' hS => by have q0 := Q2.out; go_simp⟩) hS0 ?_
                  (simp only [List.setIfInBounds_toArray, List.set_cons_zero, List.set_cons_succ])
                  refine anyH_take 15 55 (.bool false) rfl rfl (by kernel_rfl) (by kernel_rfl) (by kernel_rfl) (fun _ _ _ h => h) (.inl ⟨by rfl, fun w'' hS => by go_simp⟩) hS0 ?_
                  (simp only [List.setIfInBounds_toArray, List.set_cons_zero, List.set_cons_succ])
                  refine anyH_take 16 56 (.bool false) rfl rfl (by kernel_rfl) (by kernel_rfl) (by kernel_rfl) (fun _ _ _ h => h) (.inl ⟨by rfl, fun w'' hS => by go_simp⟩) hS0 ?_
                  (simp only [List.setIfInBounds_toArray, List.set_cons_zero, List.set_cons_succ])
                  refine anyH_take 17 57 (.pointer (some ⟨ge, 0, none⟩)) rfl rfl (by kernel_rfl) (by kernel_rfl) (by kernel_rfl) (fun _ _ _ h => h) (.inl ⟨by rfl, fun w'' hS => by go_simp⟩) hS0 ?_
                  (simp only [List.setIfInBounds_toArray, List.set_cons_zero, List.set_cons_succ])
                  refine anyH_take 18 58 (.int .i64 xd) rfl rfl (by kernel_rfl) (by kernel_rfl) (by kernel_rfl) (fun _ _ _ h => h) (.inl ⟨by rfl, fun w'' hS => by have q0 := (HEV.out _ hS).1; go_simp⟩) hS0 ?_
                  (simp only [List.setIfInBounds_toArray, List.set_cons_zero, List.set_cons_succ])
                  refine anyH_take 19 59 (.bool true) rfl rfl (by kernel_rfl) (by kernel_rfl) (by kernel_rfl) (fun _ _ _ h => h) (.inl ⟨by rfl, fun w'' hS => by have q0 := Q3.out; go_simp⟩) hS0 ?_
                  (simp only [List.setIfInBounds_toArray, List.set_cons_zero, List.set_cons_succ])
                  refine anyH_take 20 60 (.bool true) rfl rfl (by kernel_rfl) (by kernel_rfl) (by kernel_rfl) (fun _ _ _ h => h) (.inl ⟨by rfl, fun w'' hS => by go_simp⟩) hS0 ?_
                  (simp only [List.setIfInBounds_toArray, List.set_cons_zero, List.set_cons_succ])
                  refine anyH_take 21 61 (.bool true) rfl rfl (by kernel_rfl) (by kernel_rfl) (by kernel_rfl) (fun _ _ _ h => h) (.inl ⟨by rfl, fun w'' hS => by go_simp⟩) hS0 ?_
                  (simp only [List.setIfInBounds_toArray, List.set_cons_zero, List.set_cons_succ])
                  refine anyH_take 22 62 undef rfl rfl (by kernel_rfl) (by kernel_rfl) (by kernel_rfl) (fun _ _ _ h => h) (.inr ⟨by rfl, rfl⟩) hS0 ?_
                  (simp only [List.setIfInBounds_toArray, List.set_cons_zero, List.set_cons_succ])
                  refine anyH_take 23 63 undef rfl rfl (by kernel_rfl) (by kernel_rfl) (by kernel_rfl) (fun _ _ _ h => h) (.inr ⟨by rfl, rfl⟩) hS0 ?_
                  (simp only [List.setIfInBounds_toArray, List.set_cons_zero, List.set_cons_succ])
                  refine anyH_take 24 64 undef rfl rfl (by kernel_rfl) (by kernel_rfl) (by kernel_rfl) (fun _ _ _ h => h) (.inr ⟨by rfl, rfl⟩) hS0 ?_
                  (simp only [List.setIfInBounds_toArray, List.set_cons_zero, List.set_cons_succ])
                  refine anyH_take 25 65 undef rfl rfl (by kernel_rfl) (by kernel_rfl) (by kernel_rfl) (fun _ _ _ h => h) (.inr ⟨by rfl, rfl⟩) hS0 ?_
                  (simp only [List.setIfInBounds_toArray, List.set_cons_zero, List.set_cons_succ])
                  refine anyH_take 26 66 undef rfl rfl (by kernel_rfl) (by kernel_rfl) (by kernel_rfl) (fun _ _ _ h => h) (.inr ⟨by rfl, rfl⟩) hS0 ?_
                  (simp only [List.setIfInBounds_toArray, List.set_cons_zero, List.set_cons_succ])
                  refine anyH_take 27 67 undef rfl rfl (by kernel_rfl) (by kernel_rfl) (by kernel_rfl) (fun _ _ _ h => h) (.inr ⟨by rfl, rfl⟩) hS0 ?_
                  (simp only [List.setIfInBounds_toArray, List.set_cons_zero, List.set_cons_succ])
                  refine anyH_take 28 68 undef rfl rfl (by kernel_rfl) (by kernel_rfl) (by kernel_rfl) (fun _ _ _ h => h) (.inr ⟨by rfl, rfl⟩) hS0 ?_
                  (simp only [List.setIfInBounds_toArray, List.set_cons_zero, List.set_cons_succ])
                  refine anyH_take 29 69 undef rfl rfl (by kernel_rfl) (by kernel_rfl) (by kernel_rfl) (fun _ _ _ h => h) (.inr ⟨by rfl, rfl⟩) hS0 ?_
                  (simp only [List.setIfInBounds_toArray, List.set_cons_zero, List.set_cons_succ])
                  refine anyH_take 30 70 undef rfl rfl (by kernel_rfl) (by kernel_rfl) (by kernel_rfl) (fun _ _ _ h => h) (.inr ⟨by rfl, rfl⟩) hS0 ?_
                  (simp only [List.setIfInBounds_toArray, List.set_cons_zero, List.set_cons_succ])
                  refine anyH_take 31 71 (.bool true) rfl rfl (by kernel_rfl) (by kernel_rfl) (by kernel_rfl) (fun _ _ _ h => h) (.inl ⟨by rfl, fun w'' hS => by go_simp⟩) hS0 ?_
                  (simp only [List.setIfInBounds_toArray, List.set_cons_zero, List.set_cons_succ])
                  refine anyH_take 32 72 (.bool true) rfl rfl (by kernel_rfl) (by kernel_rfl) (by kernel_rfl) (fun _ _ _ h => h) (.inl ⟨by rfl, fun w'' hS => by go_simp⟩) hS0 ?_
                  (simp only [List.setIfInBounds_toArray, List.set_cons_zero, List.set_cons_succ])
                  refine anyH_take 33 73 undef rfl rfl (by kernel_rfl) (by kernel_rfl) (by kernel_rfl) (fun _ _ _ h => h) (.inr ⟨by rfl, rfl⟩) hS0 ?_
                  (simp only [List.setIfInBounds_toArray, List.set_cons_zero, List.set_cons_succ])
                  refine anyH_take 34 74 undef rfl rfl (by kernel_rfl) (by kernel_rfl) (by kernel_rfl) (fun _ _ _ h => h) (.inr ⟨by rfl, rfl⟩) hS0 ?_
                  (simp only [List.setIfInBounds_toArray, List.set_cons_zero, List.set_cons_succ])
                  refine anyH_take 35 75 undef rfl rfl (by kernel_rfl) (by kernel_rfl) (by kernel_rfl) (fun _ _ _ h => h) (.inr ⟨by rfl, rfl⟩) hS0 ?_
                  (simp only [List.setIfInBounds_toArray, List.set_cons_zero, List.set_cons_succ])
                  refine anyH_take 36 76 undef rfl rfl (by kernel_rfl) (by kernel_rfl) (by kernel_rfl) (fun _ _ _ h => h) (.inr ⟨by rfl, rfl⟩) hS0 ?_
                  (simp only [List.setIfInBounds_toArray, List.set_cons_zero, List.set_cons_succ])
                  refine anyH_take 37 77 undef rfl rfl (by kernel_rfl) (by kernel_rfl) (by kernel_rfl) (fun _ _ _ h => h) (.inr ⟨by rfl, rfl⟩) hS0 ?_
                  (simp only [List.setIfInBounds_toArray, List.set_cons_zero, List.set_cons_succ])
                  refine anyH_take 38 78 undef rfl rfl (by kernel_rfl) (by kernel_rfl) (by kernel_rfl) (fun _ _ _ h => h) (.inr ⟨by rfl, rfl⟩) hS0 ?_
                  (simp only [List.setIfInBounds_toArray, List.set_cons_zero, List.set_cons_succ])
                  refine anyH_take 39 79 (.bool true) rfl rfl (by kernel_rfl) (by kernel_rfl) (by kernel_rfl) (fun _ _ _ h => h) (.inl ⟨by rfl, fun w'' hS => by go_simp⟩) hS0 ?_
                  (simp only [List.setIfInBounds_toArray, List.set_cons_zero, List.set_cons_succ])
                  refine wpAnyH_done (by kernel_rfl) ?_ _
                  have HF2 := Lib.hid hS0
                  clear hS0
                  go_wp2_with fail
                  go_ret2
                  exact ⟨_, rfl, (RowS.nil _ 0).ints, HB.out.1.trans (HF1.out.trans HF2.out (fun _ _ q => q)) (fun _ _ q => q)⟩
              · have Q2 : Hid (xd < d) := Lib.hid (by omega)
                obtain rfl : r = none := HTN.out (by
                  unfold evOn
                  rw [if_neg]
                  intro q
                  exact absurd q.2.2.1 (by have := Q2.out; show ¬ d ≤ xd; omega))
                clear HTN HST
                go_wp2_with fail
                refine wp_region_held_drew (S := fun w' => Fr (fun _ => False) W1 w') (by kernel_rfl) ((Fr.refl _ W1).drew) (fun hS0 => ?_)
                refine anyH_take 0 40 (.pointer (some ⟨ge, 1, none⟩)) rfl rfl (by kernel_rfl) (by kernel_rfl) (by kernel_rfl) (fun _ _ _ h => h) (.inl ⟨by rfl, fun w'' hS => by go_simp⟩) hS0 ?_
                (simp only [List.setIfInBounds_toArray, List.set_cons_zero, List.set_cons_succ])
                refine anyH_take 1 41 (.int .i64 xc) rfl rfl (by kernel_rfl) (by kernel_rfl) (by kernel_rfl) (fun _ _ _ h => h) (.inl ⟨by rfl, fun w'' hS => by have q0 := (HEV.out _ hS).2.1; go_simp⟩) hS0 ?_
                (simp only [List.setIfInBounds_toArray, List.set_cons_zero, List.set_cons_succ])
                refine anyH_take 2 42 (.bool false) rfl rfl (by kernel_rfl) (by kernel_rfl) (by kernel_rfl) (fun _ _ _ h => h) (.inl ⟨by rfl, fun w'' hS => by have q0 := Q0.out; go_simp⟩) hS0 ?_
                (simp only [List.setIfInBounds_toArray, List.set_cons_zero, List.set_cons_succ])
                refine anyH_take 3 43 (.bool false) rfl rfl (by kernel_rfl) (by kernel_rfl) (by kernel_rfl) (fun _ _ _ h => h) (.inl ⟨by rfl, fun w'' hS => by go_simp⟩) hS0 ?_
                (simp only [List.setIfInBounds_toArray, List.set_cons_zero, List.set_cons_succ])
                refine anyH_take 4 44 (.pointer (some ⟨ge, 1, none⟩)) rfl rfl (by kernel_rfl) (by kernel_rfl) (by kernel_rfl) (fun _ _ _ h => h) (.inl ⟨by rfl, fun w'' hS => by go_simp⟩) hS0 ?_
                (simp only [List.setIfInBounds_toArray, List.set_cons_zero, List.set_cons_succ])
                refine anyH_take 5 45 (.int .i64 xc) rfl rfl (by kernel_rfl) (by kernel_rfl) (by kernel_rfl) (fun _ _ _ h => h) (.inl ⟨by rfl, fun w'' hS => by have q0 := (HEV.out _ hS).2.1; go_simp⟩) hS0 ?_
                (simp only [List.setIfInBounds_toArray, List.set_cons_zero, List.set_cons_succ])
                refine anyH_take 6 46 (.slice Ap k cp) rfl rfl (by kernel_rfl) (by kernel_rfl) (by kernel_rfl) (fun _ _ _ h => h) (.inl ⟨by rfl, fun w'' hS => by go_simp⟩) hS0 ?_
                (simp only [List.setIfInBounds_toArray, List.set_cons_zero, List.set_cons_succ])
                refine anyH_take 7 47 (.int .i64 (k : Nat)) rfl rfl (by kernel_rfl) (by kernel_rfl) (by kernel_rfl) (fun _ _ _ h => h) (.inl ⟨by rfl, fun w'' hS => by go_simp⟩) hS0 ?_
                (simp only [List.setIfInBounds_toArray, List.set_cons_zero, List.set_cons_succ])
                refine anyH_take 8 48 (.bool false) rfl rfl (by kernel_rfl) (by kernel_rfl) (by kernel_rfl) (fun _ _ _ h => h) (.inl ⟨by rfl, fun w'' hS => by have q0 := Q1.out; go_simp⟩) hS0 ?_
                (simp only [List.setIfInBounds_toArray, List.set_cons_zero, List.set_cons_succ])
                refine anyH_take 9 49 (.bool false) rfl rfl (by kernel_rfl) (by kernel_rfl) (by kernel_rfl) (fun _ _ _ h => h) (.inl ⟨by rfl, fun w'' hS => by go_simp⟩) hS0 ?_
                (simp only [List.setIfInBounds_toArray, List.set_cons_zero, List.set_cons_succ])
                refine anyH_take 10 50 (.bool false) rfl rfl (by kernel_rfl) (by kernel_rfl) (by kernel_rfl) (fun _ _ _ h => h) (.inl ⟨by rfl, fun w'' hS => by go_simp⟩) hS0 ?_
                (simp only [List.setIfInBounds_toArray, List.set_cons_zero, List.set_cons_succ])
                refine anyH_take 11 51 (.pointer (some ⟨ge, 0, none⟩)) rfl rfl (by kernel_rfl) (by kernel_rfl) (by kernel_rfl) (fun _ _ _ h => h) (.inl ⟨by rfl, fun w'' hS => by go_simp⟩) hS0 ?_
                (simp only [List.setIfInBounds_toArray, List.set_cons_zero, List.set_cons_succ])
                refine anyH_take 12 52 (.int .i64 xd) rfl rfl (by kernel_rfl) (by kernel_rfl) (by kernel_rfl) (fun _ _ _ h => h) (.inl ⟨by rfl, fun w'' hS => by have q0 := (HEV.out _ hS).1; go_simp⟩) hS0 ?_
                (simp only [List.setIfInBounds_toArray, List.set_cons_zero, List.set_cons_succ])
                refine anyH_take 13 53 (.int .i64 d) rfl rfl (by kernel_rfl) (by kernel_rfl) (by kernel_rfl) (fun _ _ _ h => h) (.inl ⟨by rfl, fun w'' hS => by go_simp⟩) hS0 ?_
                (simp only [List.setIfInBounds_toArray, List.set_cons_zero, List.set_cons_succ])
                refine anyH_take 14 54 (.bool true) rfl rfl (by kernel_rfl) (by kernel_rfl) (by kernel_rfl) (fun _ _ _ h => h) (.inl ⟨by rfl, fun w'' hS => by have q0 := Q2.out; go_simp⟩) hS0 ?_
                (simp only [List.setIfInBounds_toArray, List.set_cons_zero, List.set_cons_succ])
                refine anyH_take 15 55 (.bool true) rfl rfl (by kernel_rfl) (by kernel_rfl) (by kernel_rfl) (fun _ _ _ h => h) (.inl ⟨by rfl, fun w'' hS => by go_simp⟩) hS0 ?_
                (simp only [List.setIfInBounds_toArray, List.set_cons_zero, List.set_cons_succ])
                refine anyH_take 16 56 (.bool true) rfl rfl (by kernel_rfl) (by kernel_rfl) (by kernel_rfl) (fun _ _ _ h => h) (.inl ⟨by rfl, fun w'' hS => by go_simp⟩) hS0 ?_
                (simp only [List.setIfInBounds_toArray, List.set_cons_zero, List.set_cons_succ])
                refine anyH_take 17 57 undef rfl rfl (by kernel_rfl) (by kernel_rfl) (by kernel_rfl) (fun _ _ _ h => h) (.inr ⟨by rfl, rfl⟩) hS0 ?_
                (simp only [List.setIfInBounds_toArray, List.set_cons_zero, List.set_cons_succ])
                refine anyH_take 18 58 undef rfl rfl (by kernel_rfl) (by kernel_rfl) (by kernel_rfl) (fun _ _ _ h => h) (.inr ⟨by rfl, rfl⟩) hS0 ?_
                (simp only [List.setIfInBounds_toArray, List.set_cons_zero, List.set_cons_succ])
                refine anyH_take 19 59 undef rfl rfl (by kernel_rfl) (by kernel_rfl) (by kernel_rfl) (fun _ _ _ h => h) (.inr ⟨by rfl, rfl⟩) hS0 ?_
                (simp only [List.setIfInBounds_toArray, List.set_cons_zero, List.set_cons_succ])
                refine anyH_take 20 60 (.bool true) rfl rfl (by kernel_rfl) (by kernel_rfl) (by kernel_rfl) (fun _ _ _ h => h) (.inl ⟨by rfl, fun w'' hS => by go_simp⟩) hS0 ?_
                (simp only [List.setIfInBounds_toArray, List.set_cons_zero, List.set_cons_succ])
                refine anyH_take 21 61 (.bool true) rfl rfl (by kernel_rfl) (by kernel_rfl) (by kernel_rfl) (fun _ _ _ h => h) (.inl ⟨by rfl, fun w'' hS => by go_simp⟩) hS0 ?_
                (simp only [List.setIfInBounds_toArray, List.set_cons_zero, List.set_cons_succ])
                refine anyH_take 22 62 undef rfl rfl (by kernel_rfl) (by kernel_rfl) (by kernel_rfl) (fun _ _ _ h => h) (.inr ⟨by rfl, rfl⟩) hS0 ?_
                (simp only [List.setIfInBounds_toArray, List.set_cons_zero, List.set_cons_succ])
                refine anyH_take 23 63 undef rfl rfl (by kernel_rfl) (by kernel_rfl) (by kernel_rfl) (fun _ _ _ h => h) (.inr ⟨by rfl, rfl⟩) hS0 ?_
                (simp only [List.setIfInBounds_toArray, List.set_cons_zero, List.set_cons_succ])
                refine anyH_take 24 64 undef rfl rfl (by kernel_rfl) (by kernel_rfl) (by kernel_rfl) (fun _ _ _ h => h) (.inr ⟨by rfl, rfl⟩) hS0 ?_
                (simp only [List.setIfInBounds_toArray, List.set_cons_zero, List.set_cons_succ])
                refine anyH_take 25 65 undef rfl rfl (by kernel_rfl) (by kernel_rfl) (by kernel_rfl) (fun _ _ _ h => h) (.inr ⟨by rfl, rfl⟩) hS0 ?_
                (simp only [List.setIfInBounds_toArray, List.set_cons_zero, List.set_cons_succ])
                refine anyH_take 26 66 undef rfl rfl (by kernel_rfl) (by kernel_rfl) (by kernel_rfl) (fun _ _ _ h => h) (.inr ⟨by rfl, rfl⟩) hS0 ?_
                (simp only [List.setIfInBounds_toArray, List.set_cons_zero, List.set_cons_succ])
                refine anyH_take 27 67 undef rfl rfl (by kernel_rfl) (by kernel_rfl) (by kernel_rfl) (fun _ _ _ h => h) (.inr ⟨by rfl, rfl⟩) hS0 ?_
                (simp only [List.setIfInBounds_toArray, List.set_cons_zero, List.set_cons_succ])
                refine anyH_take 28 68 undef rfl rfl (by kernel_rfl) (by kernel_rfl) (by kernel_rfl) (fun _ _ _ h => h) (.inr ⟨by rfl, rfl⟩) hS0 ?_
                (simp only [List.setIfInBounds_toArray, List.set_cons_zero, List.set_cons_succ])
                refine anyH_take 29 69 undef rfl rfl (by kernel_rfl) (by kernel_rfl) (by kernel_rfl) (fun _ _ _ h => h) (.inr ⟨by rfl, rfl⟩) hS0 ?_
                (simp only [List.setIfInBounds_toArray, List.set_cons_zero, List.set_cons_succ])
                refine anyH_take 30 70 undef rfl rfl (by kernel_rfl) (by kernel_rfl) (by kernel_rfl) (fun _ _ _ h => h) (.inr ⟨by rfl, rfl⟩) hS0 ?_
                (simp only [List.setIfInBounds_toArray, List.set_cons_zero, List.set_cons_succ])
                refine anyH_take 31 71 (.bool true) rfl rfl (by kernel_rfl) (by kernel_rfl) (by kernel_rfl) (fun _ _ _ h => h) (.inl ⟨by rfl, fun w'' hS => by go_simp⟩) hS0 ?_
                (simp only [List.setIfInBounds_toArray, List.set_cons_zero, List.set_cons_succ])
                refine anyH_take 32 72 (.bool true) rfl rfl (by kernel_rfl) (by kernel_rfl) (by kernel_rfl) (fun _ _ _ h => h) (.inl ⟨by rfl, fun w'' hS => by go_simp⟩) hS0 ?_
                (simp only [List.setIfInBounds_toArray, List.set_cons_zero, List.set_cons_succ])
                refine anyH_take 33 73 undef rfl rfl (by kernel_rfl) (by kernel_rfl) (by kernel_rfl) (fun _ _ _ h => h) (.inr ⟨by rfl, rfl⟩) hS0 ?_
                (simp only [List.setIfInBounds_toArray, List.set_cons_zero, List.set_cons_succ])
                refine anyH_take 34 74 undef rfl rfl (by kernel_rfl) (by kernel_rfl) (by kernel_rfl) (fun _ _ _ h => h) (.inr ⟨by rfl, rfl⟩) hS0 ?_
                (simp only [List.setIfInBounds_toArray, List.set_cons_zero, List.set_cons_succ])
                refine anyH_take 35 75 undef rfl rfl (by kernel_rfl) (by kernel_rfl) (by kernel_rfl) (fun _ _ _ h => h) (.inr ⟨by rfl, rfl⟩) hS0 ?_
                (simp only [List.setIfInBounds_toArray, List.set_cons_zero, List.set_cons_succ])
                refine anyH_take 36 76 undef rfl rfl (by kernel_rfl) (by kernel_rfl) (by kernel_rfl) (fun _ _ _ h => h) (.inr ⟨by rfl, rfl⟩) hS0 ?_
                (simp only [List.setIfInBounds_toArray, List.set_cons_zero, List.set_cons_succ])
                refine anyH_take 37 77 undef rfl rfl (by kernel_rfl) (by kernel_rfl) (by kernel_rfl) (fun _ _ _ h => h) (.inr ⟨by rfl, rfl⟩) hS0 ?_
                (simp only [List.setIfInBounds_toArray, List.set_cons_zero, List.set_cons_succ])
                refine anyH_take 38 78 undef rfl rfl (by kernel_rfl) (by kernel_rfl) (by kernel_rfl) (fun _ _ _ h => h) (.inr ⟨by rfl, rfl⟩) hS0 ?_
                (simp only [List.setIfInBounds_toArray, List.set_cons_zero, List.set_cons_succ])
                refine anyH_take 39 79 (.bool true) rfl rfl (by kernel_rfl) (by kernel_rfl) (by kernel_rfl) (fun _ _ _ h => h) (.inl ⟨by rfl, fun w'' hS => by go_simp⟩) hS0 ?_
                (simp only [List.setIfInBounds_toArray, List.set_cons_zero, List.set_cons_succ])
                refine wpAnyH_done (by kernel_rfl) ?_ _
                have HF2 := Lib.hid hS0
                clear hS0
                go_wp2_with fail
                go_ret2
                exact ⟨_, rfl, (RowS.nil _ 0).ints, HB.out.1.trans (HF1.out.trans HF2.out (fun _ _ q => q)) (fun _ _ q => q)⟩
            · have Q1 : Hid ((k : Int) < xc) := Lib.hid (by omega)
              obtain rfl : r = none := HTN.out (by
                unfold evOn
                rw [if_neg]
                intro q
                exact absurd q.2.1 (by have := Q1.out; have := HNL.out.1; show ¬ xc ≤ (now.length : Int); omega))
              clear HTN HST
              go_wp2_with fail
              refine wp_region_held_drew (S := fun w' => Fr (fun _ => False) W1 w') (by kernel_rfl) ((Fr.refl _ W1).drew) (fun hS0 => ?_)
              refine anyH_take 0 40 (.pointer (some ⟨ge, 1, none⟩)) rfl rfl (by kernel_rfl) (by kernel_rfl) (by kernel_rfl) (fun _ _ _ h => h) (.inl ⟨by rfl, fun w'' hS => by go_simp⟩) hS0 ?_
              (simp only [List.setIfInBounds_toArray, List.set_cons_zero, List.set_cons_succ])
              refine anyH_take 1 41 (.int .i64 xc) rfl rfl (by kernel_rfl) (by kernel_rfl) (by kernel_rfl) (fun _ _ _ h => h) (.inl ⟨by rfl, fun w'' hS => by have q0 := (HEV.out _ hS).2.1; go_simp⟩) hS0 ?_
              (simp only [List.setIfInBounds_toArray, List.set_cons_zero, List.set_cons_succ])
              refine anyH_take 2 42 (.bool false) rfl rfl (by kernel_rfl) (by kernel_rfl) (by kernel_rfl) (fun _ _ _ h => h) (.inl ⟨by rfl, fun w'' hS => by have q0 := Q0.out; go_simp⟩) hS0 ?_
              (simp only [List.setIfInBounds_toArray, List.set_cons_zero, List.set_cons_succ])
              refine anyH_take 3 43 (.bool false) rfl rfl (by kernel_rfl) (by kernel_rfl) (by kernel_rfl) (fun _ _ _ h => h) (.inl ⟨by rfl, fun w'' hS => by go_simp⟩) hS0 ?_
              (simp only [List.setIfInBounds_toArray, List.set_cons_zero, List.set_cons_succ])
              refine anyH_take 4 44 (.pointer (some ⟨ge, 1, none⟩)) rfl rfl (by kernel_rfl) (by kernel_rfl) (by kernel_rfl) (fun _ _ _ h => h) (.inl ⟨by rfl, fun w'' hS => by go_simp⟩) hS0 ?_
              (simp only [List.setIfInBounds_toArray, List.set_cons_zero, List.set_cons_succ])
              refine anyH_take 5 45 (.int .i64 xc) rfl rfl (by kernel_rfl) (by kernel_rfl) (by kernel_rfl) (fun _ _ _ h => h) (.inl ⟨by rfl, fun w'' hS => by have q0 := (HEV.out _ hS).2.1; go_simp⟩) hS0 ?_
              (simp only [List.setIfInBounds_toArray, List.set_cons_zero, List.set_cons_succ])
              refine anyH_take 6 46 (.slice Ap k cp) rfl rfl (by kernel_rfl) (by kernel_rfl) (by kernel_rfl) (fun _ _ _ h => h) (.inl ⟨by rfl, fun w'' hS => by go_simp⟩) hS0 ?_
              (simp only [List.setIfInBounds_toArray, List.set_cons_zero, List.set_cons_succ])
              refine anyH_take 7 47 (.int .i64 (k : Nat)) rfl rfl (by kernel_rfl) (by kernel_rfl) (by kernel_rfl) (fun _ _ _ h => h) (.inl ⟨by rfl, fun w'' hS => by go_simp⟩) hS0 ?_
              (simp only [List.setIfInBounds_toArray, List.set_cons_zero, List.set_cons_succ])
              refine anyH_take 8 48 (.bool true) rfl rfl (by kernel_rfl) (by kernel_rfl) (by kernel_rfl) (fun _ _ _ h => h) (.inl ⟨by rfl, fun w'' hS => by have q0 := Q1.out; go_simp⟩) hS0 ?_
              (simp only [List.setIfInBounds_toArray, List.set_cons_zero, List.set_cons_succ])
              refine anyH_take 9 49 (.bool true) rfl rfl (by kernel_rfl) (by kernel_rfl) (by kernel_rfl) (fun _ _ _ h => h) (.inl ⟨by rfl, fun w'' hS => by go_simp⟩) hS0 ?_
              (simp only [List.setIfInBounds_toArray, List.set_cons_zero, List.set_cons_succ])
              refine anyH_take 10 50 (.bool true) rfl rfl (by kernel_rfl) (by kernel_rfl) (by kernel_rfl) (fun _ _ _ h => h) (.inl ⟨by rfl, fun w'' hS => by go_simp⟩) hS0 ?_
              (simp only [List.setIfInBounds_toArray, List.set_cons_zero, List.set_cons_succ])
              refine anyH_take 11 51 undef rfl rfl (by kernel_rfl) (by kernel_rfl) (by kernel_rfl) (fun _ _ _ h => h) (.inr ⟨by rfl, rfl⟩) hS0 ?_
              (simp only [List.setIfInBounds_toArray, List.set_cons_zero, List.set_cons_succ])
              refine anyH_take 12 52 undef rfl rfl (by kernel_rfl) (by kernel_rfl) (by kernel_rfl) (fun _ _ _ h => h) (.inr ⟨by rfl, rfl⟩) hS0 ?_
              (simp only [List.setIfInBounds_toArray, List.set_cons_zero, List.set_cons_succ])
              refine anyH_take 13 53 undef rfl rfl (by kernel_rfl) (by kernel_rfl) (by kernel_rfl) (fun _ _ _ h => h) (.inr ⟨by rfl, rfl⟩) hS0 ?_
              (simp only [List.setIfInBounds_toArray, List.set_cons_zero, List.set_cons_succ])
              refine anyH_take 14 54 undef rfl rfl (by kernel_rfl) (by kernel_rfl) (by kernel_rfl) (fun _ _ _ h => h) (.inr ⟨by rfl, rfl⟩) hS0 ?_
              (simp only [List.setIfInBounds_toArray, List.set_cons_zero, List.set_cons_succ])
              refine anyH_take 15 55 (.bool true) rfl rfl (by kernel_rfl) (by kernel_rfl) (by kernel_rfl) (fun _ _ _ h => h) (.inl ⟨by rfl, fun w'' hS => by go_simp⟩) hS0 ?_
              (simp only [List.setIfInBounds_toArray, List.set_cons_zero, List.set_cons_succ])
              refine anyH_take 16 56 (.bool true) rfl rfl (by kernel_rfl) (by kernel_rfl) (by kernel_rfl) (fun _ _ _ h => h) (.inl ⟨by rfl, fun w'' hS => by go_simp⟩) hS0 ?_
              (simp only [List.setIfInBounds_toArray, List.set_cons_zero, List.set_cons_succ])
              refine anyH_take 17 57 undef rfl rfl (by kernel_rfl) (by kernel_rfl) (by kernel_rfl) (fun _ _ _ h => h) (.inr ⟨by rfl, rfl⟩) hS0 ?_
              (simp only [List.setIfInBounds_toArray, List.set_cons_zero, List.set_cons_succ])
              refine anyH_take 18 58 undef rfl rfl (by kernel_rfl) (by kernel_rfl) (by kernel_rfl) (fun _ _ _ h => h) (.inr ⟨by rfl, rfl⟩) hS0 ?_
              (simp only [List.setIfInBounds_toArray, List.set_cons_zero, List.set_cons_succ])
              refine anyH_take 19 59 undef rfl rfl (by kernel_rfl) (by kernel_rfl) (by kernel_rfl) (fun _ _ _ h => h) (.inr ⟨by rfl, rfl⟩) hS0 ?_
              (simp only [List.setIfInBounds_toArray, List.set_cons_zero, List.set_cons_succ])
              refine anyH_take 20 60 (.bool true) rfl rfl (by kernel_rfl) (by kernel_rfl) (by kernel_rfl) (fun _ _ _ h => h) (.inl ⟨by rfl, fun w'' hS => by go_simp⟩) hS0 ?_
              (simp only [List.setIfInBounds_toArray, List.set_cons_zero, List.set_cons_succ])
              refine anyH_take 21 61 (.bool true) rfl rfl (by kernel_rfl) (by kernel_rfl) (by kernel_rfl) (fun _ _ _ h => h) (.inl ⟨by rfl, fun w'' hS => by go_simp⟩) hS0 ?_
              (simp only [List.setIfInBounds_toArray, List.set_cons_zero, List.set_cons_succ])
              refine anyH_take 22 62 undef rfl rfl (by kernel_rfl) (by kernel_rfl) (by kernel_rfl) (fun _ _ _ h => h) (.inr ⟨by rfl, rfl⟩) hS0 ?_
              (simp only [List.setIfInBounds_toArray, List.set_cons_zero, List.set_cons_succ])
              refine anyH_take 23 63 undef rfl rfl (by kernel_rfl) (by kernel_rfl) (by kernel_rfl) (fun _ _ _ h => h) (.inr ⟨by rfl, rfl⟩) hS0 ?_
              (simp only [List.setIfInBounds_toArray, List.set_cons_zero, List.set_cons_succ])
              refine anyH_take 24 64 undef rfl rfl (by kernel_rfl) (by kernel_rfl) (by kernel_rfl) (fun _ _ _ h => h) (.inr ⟨by rfl, rfl⟩) hS0 ?_
              (simp only [List.setIfInBounds_toArray, List.set_cons_zero, List.set_cons_succ])
              refine anyH_take 25 65 undef rfl rfl (by kernel_rfl) (by kernel_rfl) (by kernel_rfl) (fun _ _ _ h => h) (.inr ⟨by rfl, rfl⟩) hS0 ?_
              (simp only [List.setIfInBounds_toArray, List.set_cons_zero, List.set_cons_succ])
              refine anyH_take 26 66 undef rfl rfl (by kernel_rfl) (by kernel_rfl) (by kernel_rfl) (fun _ _ _ h => h) (.inr ⟨by rfl, rfl⟩) hS0 ?_
              (simp only [List.setIfInBounds_toArray, List.set_cons_zero, List.set_cons_succ])
              refine anyH_take 27 67 undef rfl rfl (by kernel_rfl) (by kernel_rfl) (by kernel_rfl) (fun _ _ _ h => h) (.inr ⟨by rfl, rfl⟩) hS0 ?_
              (simp only [List.setIfInBounds_toArray, List.set_cons_zero, List.set_cons_succ])
              refine anyH_take 28 68 undef rfl rfl (by kernel_rfl) (by kernel_rfl) (by kernel_rfl) (fun _ _ _ h => h) (.inr ⟨by rfl, rfl⟩) hS0 ?_
              (simp only [List.setIfInBounds_toArray, List.set_cons_zero, List.set_cons_succ])
              refine anyH_take 29 69 undef rfl rfl (by kernel_rfl) (by kernel_rfl) (by kernel_rfl) (fun _ _ _ h => h) (.inr ⟨by rfl, rfl⟩) hS0 ?_
              (simp only [List.setIfInBounds_toArray, List.set_cons_zero, List.set_cons_succ])
              refine anyH_take 30 70 undef rfl rfl (by kernel_rfl) (by kernel_rfl) (by kernel_rfl) (fun _ _ _ h => h) (.inr ⟨by rfl, rfl⟩) hS0 ?_
              (simp only [List.setIfInBounds_toArray, List.set_cons_zero, List.set_cons_succ])
              refine anyH_take 31 71 (.bool true) rfl rfl (by kernel_rfl) (by kernel_rfl) (by kernel_rfl) (fun _ _ _ h => h) (.inl ⟨by rfl, fun w'' hS => by go_simp⟩) hS0 ?_
              (simp only [List.setIfInBounds_toArray, List.set_cons_zero, List.set_cons_succ])
              refine anyH_take 32 72 (.bool true) rfl rfl (by kernel_rfl) (by kernel_rfl) (by kernel_rfl) (fun _ _ _ h => h) (.inl ⟨by rfl, fun w'' hS => by go_simp⟩) hS0 ?_
              (simp only [List.setIfInBounds_toArray, List.set_cons_zero, List.set_cons_succ])
              refine anyH_take 33 73 undef rfl rfl (by kernel_rfl) (by kernel_rfl) (by kernel_rfl) (fun _ _ _ h => h) (.inr ⟨by rfl, rfl⟩) hS0 ?_
              (simp only [List.setIfInBounds_toArray, List.set_cons_zero, List.set_cons_succ])
              refine anyH_take 34 74 undef rfl rfl (by kernel_rfl) (by kernel_rfl) (by kernel_rfl) (fun _ _ _ h => h) (.inr ⟨by rfl, rfl⟩) hS0 ?_
              (simp only [List.setIfInBounds_toArray, List.set_cons_zero, List.set_cons_succ])
              refine anyH_take 35 75 undef rfl rfl (by kernel_rfl) (by kernel_rfl) (by kernel_rfl) (fun _ _ _ h => h) (.inr ⟨by rfl, rfl⟩) hS0 ?_
              (simp only [List.setIfInBounds_toArray, List.set_cons_zero, List.set_cons_succ])
              refine anyH_take 36 76 undef rfl rfl (by kernel_rfl) (by kernel_rfl) (by kernel_rfl) (fun _ _ _ h => h) (.inr ⟨by rfl, rfl⟩) hS0 ?_
              (simp only [List.setIfInBounds_toArray, List.set_cons_zero, List.set_cons_succ])
              refine anyH_take 37 77 undef rfl rfl (by kernel_rfl) (by kernel_rfl) (by kernel_rfl) (fun _ _ _ h => h) (.inr ⟨by rfl, rfl⟩) hS0 ?_
              (simp only [List.setIfInBounds_toArray, List.set_cons_zero, List.set_cons_succ])
              refine anyH_take 38 78 undef rfl rfl (by kernel_rfl) (by kernel_rfl) (by kernel_rfl) (fun _ _ _ h => h) (.inr ⟨by rfl, rfl⟩) hS0 ?_
              (simp only [List.setIfInBounds_toArray, List.set_cons_zero, List.set_cons_succ])
              refine anyH_take 39 79 (.bool true) rfl rfl (by kernel_rfl) (by kernel_rfl) (by kernel_rfl) (fun _ _ _ h => h) (.inl ⟨by rfl, fun w'' hS => by go_simp⟩) hS0 ?_
              (simp only [List.setIfInBounds_toArray, List.set_cons_zero, List.set_cons_succ])
              refine wpAnyH_done (by kernel_rfl) ?_ _
              have HF2 := Lib.hid hS0
              clear hS0
              go_wp2_with fail
              go_ret2
              exact ⟨_, rfl, (RowS.nil _ 0).ints, HB.out.1.trans (HF1.out.trans HF2.out (fun _ _ q => q)) (fun _ _ q => q)⟩
          · have Q0 : Hid (xc < 1) := Lib.hid (by omega)
            obtain rfl : r = none := HTN.out (by
              unfold evOn
              rw [if_neg]
              intro q
              exact absurd q.1 (by have := Q0.out; omega))
            clear HTN HST
            go_wp2_with fail
            refine wp_region_held_drew (S := fun w' => Fr (fun _ => False) W1 w') (by kernel_rfl) ((Fr.refl _ W1).drew) (fun hS0 => ?_)
            refine anyH_take 0 40 (.pointer (some ⟨ge, 1, none⟩)) rfl rfl (by kernel_rfl) (by kernel_rfl) (by kernel_rfl) (fun _ _ _ h => h) (.inl ⟨by rfl, fun w'' hS => by go_simp⟩) hS0 ?_
            (simp only [List.setIfInBounds_toArray, List.set_cons_zero, List.set_cons_succ])
            refine anyH_take 1 41 (.int .i64 xc) rfl rfl (by kernel_rfl) (by kernel_rfl) (by kernel_rfl) (fun _ _ _ h => h) (.inl ⟨by rfl, fun w'' hS => by have q0 := (HEV.out _ hS).2.1; go_simp⟩) hS0 ?_
            (simp only [List.setIfInBounds_toArray, List.set_cons_zero, List.set_cons_succ])
            refine anyH_take 2 42 (.bool true) rfl rfl (by kernel_rfl) (by kernel_rfl) (by kernel_rfl) (fun _ _ _ h => h) (.inl ⟨by rfl, fun w'' hS => by have q0 := Q0.out; go_simp⟩) hS0 ?_
            (simp only [List.setIfInBounds_toArray, List.set_cons_zero, List.set_cons_succ])
            refine anyH_take 3 43 (.bool true) rfl rfl (by kernel_rfl) (by kernel_rfl) (by kernel_rfl) (fun _ _ _ h => h) (.inl ⟨by rfl, fun w'' hS => by go_simp⟩) hS0 ?_
            (simp only [List.setIfInBounds_toArray, List.set_cons_zero, List.set_cons_succ])
            refine anyH_take 4 44 undef rfl rfl (by kernel_rfl) (by kernel_rfl) (by kernel_rfl) (fun _ _ _ h => h) (.inr ⟨by rfl, rfl⟩) hS0 ?_
            (simp only [List.setIfInBounds_toArray, List.set_cons_zero, List.set_cons_succ])
            refine anyH_take 5 45 undef rfl rfl (by kernel_rfl) (by kernel_rfl) (by kernel_rfl) (fun _ _ _ h => h) (.inr ⟨by rfl, rfl⟩) hS0 ?_
            (simp only [List.setIfInBounds_toArray, List.set_cons_zero, List.set_cons_succ])
            refine anyH_take 6 46 undef rfl rfl (by kernel_rfl) (by kernel_rfl) (by kernel_rfl) (fun _ _ _ h => h) (.inr ⟨by rfl, rfl⟩) hS0 ?_
            (simp only [List.setIfInBounds_toArray, List.set_cons_zero, List.set_cons_succ])
            refine anyH_take 7 47 undef rfl rfl (by kernel_rfl) (by kernel_rfl) (by kernel_rfl) (fun _ _ _ h => h) (.inr ⟨by rfl, rfl⟩) hS0 ?_
            (simp only [List.setIfInBounds_toArray, List.set_cons_zero, List.set_cons_succ])
            refine anyH_take 8 48 undef rfl rfl (by kernel_rfl) (by kernel_rfl) (by kernel_rfl) (fun _ _ _ h => h) (.inr ⟨by rfl, rfl⟩) hS0 ?_
            (simp only [List.setIfInBounds_toArray, List.set_cons_zero, List.set_cons_succ])
            refine anyH_take 9 49 (.bool true) rfl rfl (by kernel_rfl) (by kernel_rfl) (by kernel_rfl) (fun _ _ _ h => h) (.inl ⟨by rfl, fun w'' hS => by go_simp⟩) hS0 ?_
            (simp only [List.setIfInBounds_toArray, List.set_cons_zero, List.set_cons_succ])
            refine anyH_take 10 50 (.bool true) rfl rfl (by kernel_rfl) (by kernel_rfl) (by kernel_rfl) (fun _ _ _ h => h) (.inl ⟨by rfl, fun w'' hS => by go_simp⟩) hS0 ?_
            (simp only [List.setIfInBounds_toArray, List.set_cons_zero, List.set_cons_succ])
            refine anyH_take 11 51 undef rfl rfl (by kernel_rfl) (by kernel_rfl) (by kernel_rfl) (fun _ _ _ h => h) (.inr ⟨by rfl, rfl⟩) hS0 ?_
            (simp only [List.setIfInBounds_toArray, List.set_cons_zero, List.set_cons_succ])
            refine anyH_take 12 52 undef rfl rfl (by kernel_rfl) (by kernel_rfl) (by kernel_rfl) (fun _ _ _ h => h) (.inr ⟨by rfl, rfl⟩) hS0 ?_
            (simp only [List.setIfInBounds_toArray, List.set_cons_zero, List.set_cons_succ])
            refine anyH_take 13 53 undef rfl rfl (by kernel_rfl) (by kernel_rfl) (by kernel_rfl) (fun _ _ _ h => h) (.inr ⟨by rfl, rfl⟩) hS0 ?_
            (simp only [List.setIfInBounds_toArray, List.set_cons_zero, List.set_cons_succ])
            refine anyH_take 14 54 undef rfl rfl (by kernel_rfl) (by kernel_rfl) (by kernel_rfl) (fun _ _ _ h => h) (.inr ⟨by rfl, rfl⟩) hS0 ?_
            (simp only [List.setIfInBounds_toArray, List.set_cons_zero, List.set_cons_succ])
            refine anyH_take 15 55 (.bool true) rfl rfl (by kernel_rfl) (by kernel_rfl) (by kernel_rfl) (fun _ _ _ h => h) (.inl ⟨by rfl, fun w'' hS => by go_simp⟩) hS0 ?_
            (simp only [List.setIfInBounds_toArray, List.set_cons_zero, List.set_cons_succ])
            refine anyH_take 16 56 (.bool true) rfl rfl (by kernel_rfl) (by kernel_rfl) (by kernel_rfl) (fun _ _ _ h => h) (.inl ⟨by rfl, fun w'' hS => by go_simp⟩) hS0 ?_
            (simp only [List.setIfInBounds_toArray, List.set_cons_zero, List.set_cons_succ])
            refine anyH_take 17 57 undef rfl rfl (by kernel_rfl) (by kernel_rfl) (by kernel_rfl) (fun _ _ _ h => h) (.inr ⟨by rfl, rfl⟩) hS0 ?_
            (simp only [List.setIfInBounds_toArray, List.set_cons_zero, List.set_cons_succ])
            refine anyH_take 18 58 undef rfl rfl (by kernel_rfl) (by kernel_rfl) (by kernel_rfl) (fun _ _ _ h => h) (.inr ⟨by rfl, rfl⟩) hS0 ?_
            (simp only [List.setIfInBounds_toArray, List.set_cons_zero, List.set_cons_succ])
            refine anyH_take 19 59 undef rfl rfl (by kernel_rfl) (by kernel_rfl) (by kernel_rfl) (fun _ _ _ h => h) (.inr ⟨by rfl, rfl⟩) hS0 ?_
            (simp only [List.setIfInBounds_toArray, List.set_cons_zero, List.set_cons_succ])
            refine anyH_take 20 60 (.bool true) rfl rfl (by kernel_rfl) (by kernel_rfl) (by kernel_rfl) (fun _ _ _ h => h) (.inl ⟨by rfl, fun w'' hS => by go_simp⟩) hS0 ?_
            (simp only [List.setIfInBounds_toArray, List.set_cons_zero, List.set_cons_succ])
            refine anyH_take 21 61 (.bool true) rfl rfl (by kernel_rfl) (by kernel_rfl) (by kernel_rfl) (fun _ _ _ h => h) (.inl ⟨by rfl, fun w'' hS => by go_simp⟩) hS0 ?_
            (simp only [List.setIfInBounds_toArray, List.set_cons_zero, List.set_cons_succ])
            refine anyH_take 22 62 undef rfl rfl (by kernel_rfl) (by kernel_rfl) (by kernel_rfl) (fun _ _ _ h => h) (.inr ⟨by rfl, rfl⟩) hS0 ?_
            (simp only [List.setIfInBounds_toArray, List.set_cons_zero, List.set_cons_succ])
            refine anyH_take 23 63 undef rfl rfl (by kernel_rfl) (by kernel_rfl) (by kernel_rfl) (fun _ _ _ h => h) (.inr ⟨by rfl, rfl⟩) hS0 ?_
            (simp only [List.setIfInBounds_toArray, List.set_cons_zero, List.set_cons_succ])
            refine anyH_take 24 64 undef rfl rfl (by kernel_rfl) (by kernel_rfl) (by kernel_rfl) (fun _ _ _ h => h) (.inr ⟨by rfl, rfl⟩) hS0 ?_
            (simp only [List.setIfInBounds_toArray, List.set_cons_zero, List.set_cons_succ])
            refine anyH_take 25 65 undef rfl rfl (by kernel_rfl) (by kernel_rfl) (by kernel_rfl) (fun _ _ _ h => h) (.inr ⟨by rfl, rfl⟩) hS0 ?_
            (simp only [List.setIfInBounds_toArray, List.set_cons_zero, List.set_cons_succ])
            refine anyH_take 26 66 undef rfl rfl (by kernel_rfl) (by kernel_rfl) (by kernel_rfl) (fun _ _ _ h => h) (.inr ⟨by rfl, rfl⟩) hS0 ?_
            (simp only [List.setIfInBounds_toArray, List.set_cons_zero, List.set_cons_succ])
            refine anyH_take 27 67 undef rfl rfl (by kernel_rfl) (by kernel_rfl) (by kernel_rfl) (fun _ _ _ h => h) (.inr ⟨by rfl, rfl⟩) hS0 ?_
            (simp only [List.setIfInBounds_toArray, List.set_cons_zero, List.set_cons_succ])
            refine anyH_take 28 68 undef rfl rfl (by kernel_rfl) (by kernel_rfl) (by kernel_rfl) (fun _ _ _ h => h) (.inr ⟨by rfl, rfl⟩) hS0 ?_
            (simp only [List.setIfInBounds_toArray, List.set_cons_zero, List.set_cons_succ])
            refine anyH_take 29 69 undef rfl rfl (by kernel_rfl) (by kernel_rfl) (by kernel_rfl) (fun _ _ _ h => h) (.inr ⟨by rfl, rfl⟩) hS0 ?_
            (simp only [List.setIfInBounds_toArray, List.set_cons_zero, List.set_cons_succ])
            refine anyH_take 30 70 undef rfl rfl (by kernel_rfl) (by kernel_rfl) (by kernel_rfl) (fun _ _ _ h => h) (.inr ⟨by rfl, rfl⟩) hS0 ?_
            (simp only [List.setIfInBounds_toArray, List.set_cons_zero, List.set_cons_succ])
            refine anyH_take 31 71 (.bool true) rfl rfl (by kernel_rfl) (by kernel_rfl) (by kernel_rfl) (fun _ _ _ h => h) (.inl ⟨by rfl, fun w'' hS => by go_simp⟩) hS0 ?_
            (simp only [List.setIfInBounds_toArray, List.set_cons_zero, List.set_cons_succ])
            refine anyH_take 32 72 (.bool true) rfl rfl (by kernel_rfl) (by kernel_rfl) (by kernel_rfl) (fun _ _ _ h => h) (.inl ⟨by rfl, fun w'' hS => by go_simp⟩) hS0 ?_
            (simp only [List.setIfInBounds_toArray, List.set_cons_zero, List.set_cons_succ])
            refine anyH_take 33 73 undef rfl rfl (by kernel_rfl) (by kernel_rfl) (by kernel_rfl) (fun _ _ _ h => h) (.inr ⟨by rfl, rfl⟩) hS0 ?_
            (simp only [List.setIfInBounds_toArray, List.set_cons_zero, List.set_cons_succ])
            refine anyH_take 34 74 undef rfl rfl (by kernel_rfl) (by kernel_rfl) (by kernel_rfl) (fun _ _ _ h => h) (.inr ⟨by rfl, rfl⟩) hS0 ?_
            (simp only [List.setIfInBounds_toArray, List.set_cons_zero, List.set_cons_succ])
            refine anyH_take 35 75 undef rfl rfl (by kernel_rfl) (by kernel_rfl) (by kernel_rfl) (fun _ _ _ h => h) (.inr ⟨by rfl, rfl⟩) hS0 ?_
            (simp only [List.setIfInBounds_toArray, List.set_cons_zero, List.set_cons_succ])
            refine anyH_take 36 76 undef rfl rfl (by kernel_rfl) (by kernel_rfl) (by kernel_rfl) (fun _ _ _ h => h) (.inr ⟨by rfl, rfl⟩) hS0 ?_
            (simp only [List.setIfInBounds_toArray, List.set_cons_zero, List.set_cons_succ])
            refine anyH_take 37 77 undef rfl rfl (by kernel_rfl) (by kernel_rfl) (by kernel_rfl) (fun _ _ _ h => h) (.inr ⟨by rfl, rfl⟩) hS0 ?_
            (simp only [List.setIfInBounds_toArray, List.set_cons_zero, List.set_cons_succ])
            refine anyH_take 38 78 undef rfl rfl (by kernel_rfl) (by kernel_rfl) (by kernel_rfl) (fun _ _ _ h => h) (.inr ⟨by rfl, rfl⟩) hS0 ?_
            (simp only [List.setIfInBounds_toArray, List.set_cons_zero, List.set_cons_succ])
            refine anyH_take 39 79 (.bool true) rfl rfl (by kernel_rfl) (by kernel_rfl) (by kernel_rfl) (fun _ _ _ h => h) (.inl ⟨by rfl, fun w'' hS => by go_simp⟩) hS0 ?_
            (simp only [List.setIfInBounds_toArray, List.set_cons_zero, List.set_cons_succ])
            refine wpAnyH_done (by kernel_rfl) ?_ _
            have HF2 := Lib.hid hS0
            clear hS0
            go_wp2_with fail
            go_ret2
            exact ⟨_, rfl, (RowS.nil _ 0).ints, HB.out.1.trans (HF1.out.trans HF2.out (fun _ _ q => q)) (fun _ _ q => q)⟩
        · obtain rfl : k2 = n3 := by omega
          have hee := HE.out
          rw [List.take_of_length_le (by rw [← HL.out.2.2]; exact Nat.le_refl _)] at hee
          have hthen : thenT t till = if now = t.cps.map CpD.st then some was else none := by
            unfold thenT
            rw [← HL.out.1, hee]
          have HRT := Lib.hid (HRR.out.trans hthen)
          have HP9 := HP
          have HV9 := HV
          have HF9 := HF
          have hkk : ¬ (k2 : Int) < (k2 : Int) := by omega
          have hx1 := cp_cell (HB.out.2.1.keep HF.out (fun q => q)) 10 rfl
          clear hlt hee hthen HE HP HV HF hk2 HRR
          go_wp2_with fail
          clear hkk hx1
          generalize wr = wo2 at *
          have HF30 : Hid (Fr (fun _ => False) wo2 wo2) := Lib.hid (Fr.refl _ _)
          go_loopw [12] (fun x wq => ∃ k3 : Nat, x = .int .i64 k3 ∧ k3 ≤ k ∧ Hid (∀ j, j < k3 → now[j]? = (t.cps.map CpD.st)[j]?) ∧ Hid (Fr (fun _ => False) wo2 wq)) (fun x _ => k - (intOf x).toNat)
          case atStart => exact ⟨0, rfl, Nat.zero_le _, Lib.hid (fun j h => absurd h (by omega)), HF30⟩
          case round =>
            clear HF30
            obtain ⟨k3, rfl, hk3, HE3, HF3⟩ := hrel
            by_cases hlt : k3 < k
            · obtain ⟨nz, hnz⟩ : ∃ z, now[k3]? = some z := ⟨_, List.getElem?_eq_getElem (by rw [HP9.out.2]; exact hlt)⟩
              obtain ⟨cx, hcx⟩ : ∃ z, t.cps[k3]? = some z := ⟨_, List.getElem?_eq_getElem (by rw [← HL.out.1]; exact hlt)⟩
              obtain ⟨gN, cpN, eN, hcN⟩ := HP9.out.1.cell hnz
              obtain ⟨b1, o1, cc1, e1, hc1⟩ := HA.out.1.cell hcx
              injection eN with eN eN2 eN3
              injection e1 with e1 e1n e1c
              subst eN e1
              obtain ⟨sz, hsz⟩ : ∃ z, z = cx.st := ⟨_, rfl⟩
              have hms : (t.cps.map CpD.st)[k3]? = some sz := by rw [List.getElem?_map, hcx, hsz]; rfl
              have HNZ : Hid (∀ W, Fr (fun _ => False) wo2 W → W.cell? ⟨gN, k3, none⟩ = some (.int .i64 nz)) := Lib.hid (fun W f => (f.cell (World.block_lt_of_cell? wo2 _ hcN) (fun q => q)).trans hcN)
              have HSC : Hid (∀ W, Fr (fun _ => False) wo2 W → W.cell? ⟨w.heap.size, 3, none⟩ = some (.slice (some ⟨b1, o1, none⟩) k c1)) := Lib.hid (fun W f => cp_cell (HB.out.2.1.keep (HF9.out.trans f (fun _ _ q => q)) (fun q => q)) 3 rfl)
              have HSZ : Hid (∀ W, Fr (fun _ => False) wo2 W → W.cell? ⟨b1, o1 + k3 * 6 + 3, none⟩ = some (.int .i64 sz)) := Lib.hid (fun W f => by
                have h5 := hc1 3 (.int .i64 cx.st) rfl
                rw [hsz]
                exact ((HB.out.1.trans (HF9.out.trans f (fun _ _ q => q)) (fun _ _ q => q)).cell (World.block_lt_of_cell? w _ h5) (fun q => q)).trans h5)
              have HK : Hid ((0 : Int) ≤ (k3 : Int) ∧ (k3 : Int) < (k : Int) ∧ k3 < k) := Lib.hid ⟨by omega, by omega, hlt⟩
              have hkm : (k3 : Int) < (k : Int) := by omega
              have HXX := Lib.hid (And.intro hnz hms)
              clear hnz hcx hcN hc1 eN2 eN3 e1n e1c hsz hms hlt
              by_cases he : nz = sz
              · have HD : Hid ((nz != sz) = false) := Lib.hid (by rw [bne_eq_false_iff_eq]; exact he)
                have HEQ := Lib.hid he
                clear he
                go_wp2_with fail
                refine wp_region_held_drew (S := fun w' => Fr (fun _ => False) wo2 w') (by kernel_rfl) (HF3.out.drew) (fun hS0 => ?_)
                refine anyH_take 0 106 (.slice (some ⟨gN, 0, none⟩) k cp) rfl rfl (by kernel_rfl) (by kernel_rfl) (by kernel_rfl) (fun _ _ _ h => h) (.inl ⟨by rfl, fun w'' hS => by go_simp⟩) hS0 ?_
                (simp only [List.setIfInBounds_toArray, List.set_cons_zero, List.set_cons_succ])
                refine anyH_take 1 107 (.int .i64 (k3 : Nat)) rfl rfl (by kernel_rfl) (by kernel_rfl) (by kernel_rfl) (fun _ _ _ h => h) (.inl ⟨by rfl, fun w'' hS => by go_simp⟩) hS0 ?_
                (simp only [List.setIfInBounds_toArray, List.set_cons_zero, List.set_cons_succ])
                refine anyH_take 2 108 (.pointer (some ⟨gN, k3, none⟩)) rfl rfl (by kernel_rfl) (by kernel_rfl) (by kernel_rfl) (fun _ _ _ h => h) (.inl ⟨by rfl, fun w'' hS => by have q0 := HK.out.1; have q1 := HK.out.2.1; go_simp⟩) hS0 ?_
                (simp only [List.setIfInBounds_toArray, List.set_cons_zero, List.set_cons_succ])
                refine anyH_take 3 109 (.int .i64 nz) rfl rfl (by kernel_rfl) (by kernel_rfl) (by kernel_rfl) (fun _ _ _ h => h) (.inl ⟨by rfl, fun w'' hS => by have q0 := HNZ.out _ hS; go_simp⟩) hS0 ?_
                (simp only [List.setIfInBounds_toArray, List.set_cons_zero, List.set_cons_succ])
                refine anyH_take 4 110 (.pointer (some ⟨w.heap.size, 3, none⟩)) rfl rfl (by kernel_rfl) (by kernel_rfl) (by kernel_rfl) (fun _ _ _ h => h) (.inl ⟨by rfl, fun w'' hS => by go_simp⟩) hS0 ?_
                (simp only [List.setIfInBounds_toArray, List.set_cons_zero, List.set_cons_succ])
                refine anyH_take 5 111 (.slice (some ⟨b1, o1, none⟩) k c1) rfl rfl (by kernel_rfl) (by kernel_rfl) (by kernel_rfl) (fun _ _ _ h => h) (.inl ⟨by rfl, fun w'' hS => by have q0 := HSC.out _ hS; go_simp⟩) hS0 ?_
                (simp only [List.setIfInBounds_toArray, List.set_cons_zero, List.set_cons_succ])
                refine anyH_take 6 112 (.int .i64 (k3 : Nat)) rfl rfl (by kernel_rfl) (by kernel_rfl) (by kernel_rfl) (fun _ _ _ h => h) (.inl ⟨by rfl, fun w'' hS => by go_simp⟩) hS0 ?_
                (simp only [List.setIfInBounds_toArray, List.set_cons_zero, List.set_cons_succ])
                refine anyH_take 7 113 (.pointer (some ⟨b1, o1 + k3 * 6, none⟩)) rfl rfl (by kernel_rfl) (by kernel_rfl) (by kernel_rfl) (fun _ _ _ h => h) (.inl ⟨by rfl, fun w'' hS => by have q0 := HK.out.1; have q1 := HK.out.2.1; go_simp⟩) hS0 ?_
                (simp only [List.setIfInBounds_toArray, List.set_cons_zero, List.set_cons_succ])
                refine anyH_take 8 114 (.pointer (some ⟨b1, o1 + k3 * 6 + 3, none⟩)) rfl rfl (by kernel_rfl) (by kernel_rfl) (by kernel_rfl) (fun _ _ _ h => h) (.inl ⟨by rfl, fun w'' hS => by go_simp⟩) hS0 ?_
                (simp only [List.setIfInBounds_toArray, List.set_cons_zero, List.set_cons_succ])
                refine anyH_take 9 115 (.int .i64 sz) rfl rfl (by kernel_rfl) (by kernel_rfl) (by kernel_rfl) (fun _ _ _ h => h) (.inl ⟨by rfl, fun w'' hS => by have q0 := HSZ.out _ hS; go_simp⟩) hS0 ?_
                (simp only [List.setIfInBounds_toArray, List.set_cons_zero, List.set_cons_succ])
                refine anyH_take 10 116 (.bool false) rfl rfl (by kernel_rfl) (by kernel_rfl) (by kernel_rfl) (fun _ _ _ h => h) (.inl ⟨by rfl, fun w'' hS => by have q0 := HD.out; go_simp⟩) hS0 ?_
                (simp only [List.setIfInBounds_toArray, List.set_cons_zero, List.set_cons_succ])
                refine wpAnyH_done (by kernel_rfl) ?_ _
                have HF4 := Lib.hid hS0
                clear hS0
                go_wp2_with fail
                refine ⟨⟨k3 + 1, by go_num, by have := HK.out.2.2; omega, Lib.hid (fun j hj => ?_), HF4⟩, ?_⟩
                · rcases Nat.lt_or_ge j k3 with h | h
                  · exact HE3.out j h
                  · obtain rfl : j = k3 := by omega
                    rw [HXX.out.1, HXX.out.2, HEQ.out]
                · simp [intOf]
                  have := HK.out.2.2
                  omega
              · have HD : Hid ((nz != sz) = true) := Lib.hid (by rw [bne_iff_ne]; exact he)
                obtain rfl : r = none := by
                  rw [HRT.out, if_neg]
                  intro e
                  have h5 := HXX.out.1
                  rw [e, HXX.out.2] at h5
                  injection h5 with h5
                  exact he h5.symm
                clear he
                go_wp2_with fail
                refine wp_region_held_drew (S := fun w' => Fr (fun _ => False) wo2 w') (by kernel_rfl) (HF3.out.drew) (fun hS0 => ?_)
                refine anyH_take 0 106 (.slice (some ⟨gN, 0, none⟩) k cp) rfl rfl (by kernel_rfl) (by kernel_rfl) (by kernel_rfl) (fun _ _ _ h => h) (.inl ⟨by rfl, fun w'' hS => by go_simp⟩) hS0 ?_
                (simp only [List.setIfInBounds_toArray, List.set_cons_zero, List.set_cons_succ])
                refine anyH_take 1 107 (.int .i64 (k3 : Nat)) rfl rfl (by kernel_rfl) (by kernel_rfl) (by kernel_rfl) (fun _ _ _ h => h) (.inl ⟨by rfl, fun w'' hS => by go_simp⟩) hS0 ?_
                (simp only [List.setIfInBounds_toArray, List.set_cons_zero, List.set_cons_succ])
                refine anyH_take 2 108 (.pointer (some ⟨gN, k3, none⟩)) rfl rfl (by kernel_rfl) (by kernel_rfl) (by kernel_rfl) (fun _ _ _ h => h) (.inl ⟨by rfl, fun w'' hS => by have q0 := HK.out.1; have q1 := HK.out.2.1; go_simp⟩) hS0 ?_
                (simp only [List.setIfInBounds_toArray, List.set_cons_zero, List.set_cons_succ])
                refine anyH_take 3 109 (.int .i64 nz) rfl rfl (by kernel_rfl) (by kernel_rfl) (by kernel_rfl) (fun _ _ _ h => h) (.inl ⟨by rfl, fun w'' hS => by have q0 := HNZ.out _ hS; go_simp⟩) hS0 ?_
                (simp only [List.setIfInBounds_toArray, List.set_cons_zero, List.set_cons_succ])
                refine anyH_take 4 110 (.pointer (some ⟨w.heap.size, 3, none⟩)) rfl rfl (by kernel_rfl) (by kernel_rfl) (by kernel_rfl) (fun _ _ _ h => h) (.inl ⟨by rfl, fun w'' hS => by go_simp⟩) hS0 ?_
                (simp only [List.setIfInBounds_toArray, List.set_cons_zero, List.set_cons_succ])
                refine anyH_take 5 111 (.slice (some ⟨b1, o1, none⟩) k c1) rfl rfl (by kernel_rfl) (by kernel_rfl) (by kernel_rfl) (fun _ _ _ h => h) (.inl ⟨by rfl, fun w'' hS => by have q0 := HSC.out _ hS; go_simp⟩) hS0 ?_
                (simp only [List.setIfInBounds_toArray, List.set_cons_zero, List.set_cons_succ])
                refine anyH_take 6 112 (.int .i64 (k3 : Nat)) rfl rfl (by kernel_rfl) (by kernel_rfl) (by kernel_rfl) (fun _ _ _ h => h) (.inl ⟨by rfl, fun w'' hS => by go_simp⟩) hS0 ?_
                (simp only [List.setIfInBounds_toArray, List.set_cons_zero, List.set_cons_succ])
                refine anyH_take 7 113 (.pointer (some ⟨b1, o1 + k3 * 6, none⟩)) rfl rfl (by kernel_rfl) (by kernel_rfl) (by kernel_rfl) (fun _ _ _ h => h) (.inl ⟨by rfl, fun w'' hS => by have q0 := HK.out.1; have q1 := HK.out.2.1; go_simp⟩) hS0 ?_
                (simp only [List.setIfInBounds_toArray, List.set_cons_zero, List.set_cons_succ])
                refine anyH_take 8 114 (.pointer (some ⟨b1, o1 + k3 * 6 + 3, none⟩)) rfl rfl (by kernel_rfl) (by kernel_rfl) (by kernel_rfl) (fun _ _ _ h => h) (.inl ⟨by rfl, fun w'' hS => by go_simp⟩) hS0 ?_
                (simp only [List.setIfInBounds_toArray, List.set_cons_zero, List.set_cons_succ])
                refine anyH_take 9 115 (.int .i64 sz) rfl rfl (by kernel_rfl) (by kernel_rfl) (by kernel_rfl) (fun _ _ _ h => h) (.inl ⟨by rfl, fun w'' hS => by have q0 := HSZ.out _ hS; go_simp⟩) hS0 ?_
                (simp only [List.setIfInBounds_toArray, List.set_cons_zero, List.set_cons_succ])
                refine anyH_take 10 116 (.bool true) rfl rfl (by kernel_rfl) (by kernel_rfl) (by kernel_rfl) (fun _ _ _ h => h) (.inl ⟨by rfl, fun w'' hS => by have q0 := HD.out; go_simp⟩) hS0 ?_
                (simp only [List.setIfInBounds_toArray, List.set_cons_zero, List.set_cons_succ])
                refine wpAnyH_done (by kernel_rfl) ?_ _
                have HF4 := Lib.hid hS0
                clear hS0
                go_wp2_with fail
                go_ret2
                exact ⟨_, rfl, (RowS.nil _ 0).ints, HB.out.1.trans (HF9.out.trans HF4.out (fun _ _ q => q)) (fun _ _ q => q)⟩
            · obtain rfl : k3 = k := by omega
              have hkk : ¬ (k3 : Int) < (k3 : Int) := by omega
              obtain rfl : r = some was := by
                rw [HRT.out, if_pos]
                exact list_same HP9.out.2.symm (by rw [List.length_map]; exact HL.out.1) HE3.out
              clear hlt
              go_wp2_with fail
              go_ret2
              exact ⟨_, rfl, (HV9.out.1.keep0 HF3.out).ints, HB.out.1.trans (HF9.out.trans HF3.out (fun _ _ q => q)) (fun _ _ q => q)⟩
end Go.Proofs.Ytmopkfjnjbimnaa
