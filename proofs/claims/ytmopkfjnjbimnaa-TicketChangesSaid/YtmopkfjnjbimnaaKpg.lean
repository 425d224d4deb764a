/- ticket's behind, tells. -/
import Derived.Test.YtmopkfjnjbimnaaKpf
namespace Go.Proofs.Ytmopkfjnjbimnaa
open Go.RowKit

theorem evsOn_len (till : Int) : ∀ (l : List EvT) (s r : List Int × List Int × Int), evsOn till s l = some r → r.1.length = s.1.length ∧ r.2.1.length = s.2.1.length := by
  intro l
  induction l with
  | nil =>
    intro s r h
    simp only [evsOn, Option.some.injEq] at h
    subst h
    exact ⟨rfl, rfl⟩
  | cons x l ih =>
    intro s r h
    obtain ⟨now, was, d⟩ := s
    simp only [evsOn, evOn_G] at h
    by_cases g : tellG now d x = true
    · rw [if_pos g, Option.bind_some] at h
      obtain ⟨h1, h2⟩ := ih _ _ h
      refine ⟨by rw [h1]; simp, ?_⟩
      rw [h2]
      simp only
      split <;> simp
    · rw [if_neg g] at h
      cases h
theorem evsOn_late (till : Int) : ∀ (l : List EvT) (s r : List Int × List Int × Int), evsOn till s l = some r → till < s.2.2 → r.2.1 = s.2.1 := by
  intro l
  induction l with
  | nil =>
    intro s r h _
    simp only [evsOn, Option.some.injEq] at h
    subst h
    rfl
  | cons x l ih =>
    intro s r h ht
    obtain ⟨now, was, d⟩ := s
    simp only [evsOn, evOn_G] at h
    by_cases g : tellG now d x = true
    · rw [if_pos g, Option.bind_some] at h
      have hd : d ≤ x.dy := by
        unfold tellG at g
        simp only [Bool.and_eq_true, decide_eq_true_eq] at g
        exact g.1.1
      have ht' : till < d := ht
      have := ih _ _ h (by show till < x.dy; omega)
      rw [this]
      simp only
      rw [if_neg (by omega)]
    · rw [if_neg g] at h
      cases h
theorem tellG_ix {now : List Int} {d : Int} {x : EvT} (h : tellG now d x = true) : ∃ m : Nat, x.cp = (m : Int) + 1 ∧ m < now.length ∧ (x.cp - 1).toNat = m := by
  unfold tellG hasB at h
  simp only [Bool.and_eq_true, decide_eq_true_eq] at h
  exact ⟨(x.cp - 1).toNat, by omega, by omega, rfl⟩
theorem RwV.keepS {w w' : World} {k : Nat} {α : Type} {enc : α → List Value} {v : Value} {xs : List α} (h : RwV w k enc v xs) (hk : ∀ x, 0 < (enc x).length) {F : Nat → Prop} (f : Fr F w w') (hF : ∀ b, b < w.heap.size → ¬ F b) : RwV w' k enc v xs := by
  obtain ⟨A, c, rfl, h1, h2, h3⟩ := h
  refine ⟨A, c, rfl, h1, h2, fun hp => ?_⟩
  obtain ⟨b, off, rfl, h4⟩ := h3 hp
  refine ⟨b, off, rfl, fun i x j u hx hu => ?_⟩
  have h5 := h4 i x j u hx hu
  exact (f.cell (World.block_lt_of_cell? w _ h5) (hF b (World.block_lt_of_cell? w _ h5))).trans h5
def st0 (t : TkD) (N : Nat) : List Int × List Int × Int := (List.replicate N 1, List.replicate N 1, t.iss)
set_option maxRecDepth 100000 in
set_option maxHeartbeats 8000000 in
theorem pbeh_t {w : World} {t : TkD} {gl gt n1 n2 n3 c1 c2 c3 : Nat} {A1 A2 A3 : Option Addr} (hv : ∀ W, Fr (fun b => b = gl) w W → TkV W (tkC t (.slice A1 n1 c1) (.slice A2 n2 c2) (.slice A3 n3 c3)) t) (hb : Blk w gt 27 (tkA t (.slice A1 n1 c1) (.slice A2 n2 c2) (.slice A3 n3 c3))) (hl : Blk w gl 3 #[.int .i64 t.iss])
    (hne : gt ≠ gl) (hN : n1 = 1 ∨ n1 = 2 ∨ n1 = 3 ∨ n1 = 4) (h3 : n3 ≤ 1000) :
    Calls Try.prog 58 #[tkC t (.slice A1 n1 c1) (.slice A2 n2 c2) (.slice A3 n3 c3), .func (.func 84) #[] #[.pointer (some ⟨gl, 0, none⟩), .pointer (some ⟨gt, 0, none⟩)]] w fun e w' => ∃ va, e = .returned (.tuple #[va, .bool (evsOn 0 (st0 t n1) t.his).isSome]) ∧ Hid (∀ now was d, evsOn 0 (st0 t n1) t.his = some (now, was, d) → IntsAt w' va now) ∧ Fr (fun b => b = gl) w w' := by
  obtain ⟨r, hr⟩ : ∃ r, r = (evsOn 0 (st0 t n1) t.his).isSome := ⟨_, rfl⟩
  rw [← hr]
  have HR := Lib.hid hr
  have HV := Lib.hid hv
  have HLL := Lib.hid hl
  have HNN := Lib.hid hN
  have HGL := Lib.hid hl.lt
  obtain ⟨sc, sx, se, e9, a1, a2, a3⟩ := hv w (Fr.refl _ _)
  have HL : Hid (n1 = t.cps.length ∧ n3 = t.his.length) := Lib.hid (by
    injection e9 with e9
    simp only [tkA, Array.mk.injEq, List.cons.injEq, and_true, true_and] at e9
    obtain ⟨e1, e2, e3⟩ := e9
    obtain ⟨A, c, q1, _⟩ := a1.slice
    obtain ⟨A', c', q3, _⟩ := a3.slice
    rw [q1] at e1
    rw [q3] at e3
    injection e1 with _ e1 _
    injection e3 with _ e3 _
    exact ⟨e1, e3⟩)
  have HA : Hid (RwV w 4 evC (.slice A3 n3 c3) t.his) := Lib.hid (by
    injection e9 with e9
    simp only [tkA, Array.mk.injEq, List.cons.injEq, and_true, true_and] at e9
    rw [e9.2.2]
    exact a3)
  obtain ⟨W0, hW0⟩ : ∃ W, W = w.alloc (.cells (tkA t (.slice A1 n1 c1) (.slice A2 n2 c2) (.slice A3 n3 c3)) 27) := ⟨_, rfl⟩
  obtain ⟨W1, hW1⟩ : ∃ W, W = W0.alloc (.cells #[.int .i64 1] 41) := ⟨_, rfl⟩
  have HB0 : Hid (Fr (fun _ => False) w W0 ∧ Blk W0 w.heap.size 27 (tkA t (.slice A1 n1 c1) (.slice A2 n2 c2) (.slice A3 n3 c3))) := Lib.hid (by rw [hW0]; exact ⟨(Fr.refl _ w).alloc _, Blk.new w _ _⟩)
  have HB1 : Hid (Fr (fun _ => False) W0 W1 ∧ Blk W1 W0.heap.size 41 #[.int .i64 1]) := Lib.hid (by rw [hW1]; exact ⟨(Fr.refl _ W0).alloc _, Blk.new W0 _ _⟩)
  have HBT : Hid (Fr (fun _ => False) w W1 ∧ Blk W1 w.heap.size 27 (tkA t (.slice A1 n1 c1) (.slice A2 n2 c2) (.slice A3 n3 c3))) := Lib.hid ⟨HB0.out.1.trans HB1.out.1 (fun _ _ q => q), HB0.out.2.keep HB1.out.1 (fun q => q)⟩
  have HQ0 := Lib.hid hW0
  have HQ1 := Lib.hid hW1
  have HRP := Lib.hid (prepeat_any n1 hN (c := 1) (cp_cell HB1.out.2 0 rfl))
  have hx3 : (W0.alloc (.cells #[.int .i64 1] 41)).cell? ⟨w.heap.size, 3, none⟩ = some (.slice A1 n1 c1) := by rw [← hW1]; exact cp_cell HBT.out.2 3 rfl
  have hx0 : W0.cell? ⟨w.heap.size, 3, none⟩ = some (.slice A1 n1 c1) := cp_cell HB0.out.2 3 rfl
  have HBG := Lib.hid hb
  have HNE := Lib.hid hne
  clear hb hne
  have HN3 := Lib.hid h3
  have HMM : Hid (n1 ≤ 1000) := Lib.hid (by omega)
  clear hv hl hN h3 hr a1 a2 a3 e9 hW0 hW1
  go_enter Try.func58, Try.ntmps58
  go_upto_region 1 with fail
  rw [← HQ0.out]
  clear HQ0
  go_wp2_with fail
  rw [← HQ1.out]
  clear HQ1
  refine HRP.out.mono ?_
  rintro e w2 ⟨rfl, ho, f2⟩
  have HO := Lib.hid ho
  have HF2 := Lib.hid (HBT.out.1.trans f2 (fun _ _ q => q))
  have hx10 : w2.cell? ⟨w.heap.size, 10, none⟩ = some (.slice A3 n3 c3) := cp_cell (HBT.out.2.keep f2 (fun q => q)) 10 rfl
  have HSZ : Hid (w.heap.size < W1.heap.size) := Lib.hid HBT.out.2.lt
  clear hx3 hx0 ho f2 HRP
  generalize hgh : W1.heap.size = h at *
  go_wp2_with fail
  clear hx10
  have HE0 : Hid (evsOn 0 (st0 t n1) (t.his.take 0) = some (st0 t n1)) := Lib.hid rfl
  have HO0 : Hid (RowS w2 h (.slice (some ⟨h, 0, none⟩) n1 n1) (List.replicate n1 1) ∧ (List.replicate n1 (1 : Int)).length = n1) := Lib.hid ⟨HO.out, List.length_replicate⟩
  have HG0 : Hid (Blk w2 gl 3 #[.int .i64 t.iss]) := Lib.hid (HLL.out.keep HF2.out (fun q => q))
  have HF0 : Hid (Fr (fun b => b = gl) w w2) := Lib.hid (Fr.mono HF2.out (fun _ _ q => q.elim))
  go_loopw [17] (fun x wr => ∃ (k : Nat) (now was : List Int) (d : Int), x = .int .i64 k ∧ k ≤ n3 ∧ Hid (evsOn 0 (st0 t n1) (t.his.take k) = some (now, was, d)) ∧ Hid (RowS wr h (.slice (some ⟨h, 0, none⟩) n1 n1) now ∧ now.length = n1) ∧ Hid (Blk wr gl 3 #[.int .i64 d]) ∧ Hid (Fr (fun b => b = gl) w wr)) (fun x _ => n3 - (intOf x).toNat)
  case atStart => exact ⟨0, _, _, _, rfl, Nat.zero_le _, HE0, HO0, HG0, HF0⟩
  case round =>
    clear HE0 HO0 HG0 HF0 HO HF2
    obtain ⟨k, now, was, d, rfl, hk, HE, HO, HG, HF⟩ := hrel
    by_cases hlt : k < n3
    · obtain ⟨x1, hx⟩ : ∃ x, t.his[k]? = some x := ⟨_, List.getElem?_eq_getElem (by rw [← HL.out.2]; exact hlt)⟩
      obtain ⟨b3, o3, cc3, e3, hc3⟩ := HA.out.cell hx
      injection e3 with e3 e3n e3c
      subst e3
      have hvr : RwV wr 4 evC (.slice (some ⟨b3, o3, none⟩) n3 c3) t.his := by
        obtain ⟨sc, sx, se, e9, a1, a2, a3⟩ := HV.out wr HF.out
        injection e9 with e9
        simp only [tkA, Array.mk.injEq, List.cons.injEq, and_true, true_and] at e9
        rw [e9.2.2]
        exact a3
      obtain ⟨b4, o4, cc4, e4, hc4⟩ := hvr.cell hx
      injection e4 with e4 e4n e4c
      injection e4 with e4
      injection e4 with e4a e4b _
      subst e4a e4b
      have hy1 : wr.rangeAt b3 (o3 + k * 4) (evC x1) := fun j u hu => hc4 j u hu
      have hk0 : (0 : Int) ≤ (k : Int) := by omega
      have hkm : (k : Int) < (n3 : Int) := by omega
      have HXY := Lib.hid (And.intro hx hlt)
      have hstep := evsOn_snoc 0 (t.his.take k) (st0 t n1) x1
      rw [HE.out, ← take_succ' hx, Option.bind_some, evOn_G] at hstep
      have HST := Lib.hid hstep
      have HLN := Lib.hid (evsOn_len 0 _ _ _ HE.out)
      clear hx hc3 e3n e3c hlt hvr hc4 e4n e4c hstep
      go_upto_region 5 with (refine wpList_load_mid rfl 51 (.tmp 19) rfl b3 (o3 + k * 4) rfl (evC x1) _ hy1 Try.underlying51 rfl (info_size infoEv) ?_)
      obtain ⟨xd, xc, xf, xt⟩ := x1
      obtain ⟨W3, hW3⟩ : ∃ W, W = wr.alloc (.cells #[.int .i64 xd, .int .i64 xc, .int .i64 xf, .int .i64 xt] 51) := ⟨_, rfl⟩
      have f1 : Fr (fun _ => False) wr W3 := by rw [hW3]; exact (Fr.refl _ wr).alloc _
      have hb1 : Blk W3 wr.heap.size 51 #[.int .i64 xd, .int .i64 xc, .int .i64 xf, .int .i64 xt] := by rw [hW3]; exact Blk.new wr _ _
      have HF1 : Hid (Fr (fun b => b = gl) w W3) := Lib.hid (HF.out.trans f1 (fun _ _ q => q.elim))
      have HBX := Lib.hid hb1
      have HO3 := Lib.hid (And.intro (HO.out.1.keep0 f1) HO.out.2)
      have HG3 := Lib.hid (HG.out.keep f1 (fun q => q))
      have HHB : Hid (h < wr.heap.size ∧ gl < wr.heap.size ∧ gl < h) := Lib.hid ⟨row_lt HO.out.1 rfl, HG.out.lt, Nat.lt_trans HGL.out HSZ.out⟩
      have HCL := Lib.hid (ptl1_any (w := W3) (t := t) (x := ⟨xd, xc, xf, xt⟩) (now := now) (d := d) (gl := gl) (gt := gt) (N := n1) (cap := n1) (gN := h) (A1 := A1) (A2 := A2) (A3 := some ⟨b3, o3, none⟩) (n1 := n1) (n2 := n2) (n3 := n3) (c1 := c1) (c2 := c2) (c3 := c3)
        (fun W f => HV.out W (HF1.out.trans f (fun _ _ q => q))) (fun W f => HBG.out.keep (HF1.out.trans f (fun _ _ q => q)) HNE.out) HG3.out HO.out.2 HL.out.1.symm HMM.out
        (fun W f i z hz => by
          obtain ⟨g9, cap9, e9, hc9⟩ := HO3.out.1.cell hz
          injection e9 with e9
          injection e9 with e9
          injection e9 with e9
          subst e9
          exact (f.cell (World.block_lt_of_cell? _ _ hc9) (fun q => by have h6 : h = gl := q; have := HHB.out.2.2; omega)).trans hc9))
      rw [← hW3]
      clear hW3 f1 hb1 hy1 hk0 hkm HO HG HF HE
      generalize hge : wr.heap.size = ge at *
      clear hge
      cases he : tellG now d ⟨xd, xc, xf, xt⟩ with
      | true =>
        have hst : evsOn 0 (st0 t n1) (t.his.take (k + 1)) = some (now.set (xc - 1).toNat xt, if xd ≤ 0 then was.set (xc - 1).toNat xt else was, xd) := by rw [HST.out, he]; rfl
        obtain ⟨m, hm1, hm2, hm3⟩ := tellG_ix he
        simp only at hm1 hm2 hm3
        rw [HO3.out.2] at hm2
        rw [he] at HCL
        rw [hm3] at hst
        obtain ⟨i1, i2, i3, i4⟩ : xc - 1 = (m : Int) ∧ wrap64 (m : Int) = (m : Int) ∧ (0 : Int) ≤ (m : Int) ∧ (m : Int) < (n1 : Int) := ⟨by omega, wrap64_in (by omega) (by have := HMM.out; omega), by omega, by omega⟩
        have HSTN := Lib.hid (And.intro hst hm2)
        clear hst he hm1 hm3 HST
        go_wp2_with (refine wpList_load_mid rfl 51 (.tmp 8) rfl ge 0 rfl (evC ⟨xd, xc, xf, xt⟩) _ (blk_range HBX.out) Try.underlying51 rfl (info_size infoEv) ?_)
        refine HCL.out.mono ?_
        rintro e w3 ⟨rfl, f3, hg3⟩
        have HF4 := Lib.hid (HF1.out.trans f3 (fun _ _ q => q))
        have HO4 : Hid (RowS w3 h (.slice (some ⟨h, 0, none⟩) n1 n1) now) := Lib.hid (HO3.out.1.keep f3 (fun b hb q => by injection hb with hb; have h7 : h = b := hb; have h6 : b = gl := q; have := HHB.out.2.2; omega))
        have HB4 : Hid (Blk w3 ge 51 #[.int .i64 xd, .int .i64 xc, .int .i64 xf, .int .i64 xt]) := Lib.hid (HBX.out.keep f3 (fun q => by have h6 : ge = gl := q; have := HHB.out.2.1; omega))
        have HG4 : Hid (Blk w3 gl 3 #[.int .i64 xd]) := Lib.hid (by first | exact hg3 rfl | exact hg3 trivial)
        have hz1 := cp_cell HB4.out 1 (v := .int .i64 xc) rfl
        have hz3 := cp_cell HB4.out 3 (v := .int .i64 xt) rfl
        obtain ⟨z9, hz9⟩ : ∃ z, now[m]? = some z := ⟨_, List.getElem?_eq_getElem (by rw [HO3.out.2]; exact HSTN.out.2)⟩
        obtain ⟨g9, cap9, e9, hc9⟩ := HO4.out.cell hz9
        injection e9 with e9 e9n e9c
        clear e9n e9c
        injection e9 with e9
        injection e9 with e9
        subst e9
        have hfz := HO4.out.frozen (i := m)
        have HS5 : Hid (RowS (w3.setCell ⟨h, m, none⟩ (.int .i64 xt)) h (.slice (some ⟨h, 0, none⟩) n1 n1) (now.set m xt)) := Lib.hid (HO4.out.set (by rw [HO3.out.2]; exact HSTN.out.2) xt)
        have HF5 : Hid (Fr (fun b => b = gl) w (w3.setCell ⟨h, m, none⟩ (.int .i64 xt))) := Lib.hid (HF4.out.setCell (.inr (Nat.le_of_lt HSZ.out)) _)
        have HG5 : Hid (Blk (w3.setCell ⟨h, m, none⟩ (.int .i64 xt)) gl 3 #[.int .i64 xd]) := Lib.hid (HG4.out.keep ((Fr.refl (fun b => b = h) w3).setCell (p := ⟨h, m, none⟩) (.inl rfl) _) (fun q => by have h6 : gl = h := q; have := HHB.out.2.2; omega))
        clear f3 hz9 hg3
        have hn3 := HN3.out
        go_wp2_with fail
        refine ⟨⟨k + 1, _, _, _, by go_num, by have := HXY.out.2; omega, Lib.hid HSTN.out.1, Lib.hid ⟨HS5.out, by rw [List.length_set]; exact HO3.out.2⟩, HG5, HF5⟩, ?_⟩
        simp [intOf]
        have := HXY.out.2
        omega
      | false =>
        have hnone : evsOn 0 (st0 t n1) t.his = none := evsOn_none 0 t.his _ (k + 1) (by rw [HST.out, he]; rfl)
        obtain rfl : r = false := by rw [HR.out, hnone]; rfl
        rw [he] at HCL
        have HNO := Lib.hid hnone
        clear he hnone HST
        go_wp2_with (refine wpList_load_mid rfl 51 (.tmp 8) rfl ge 0 rfl (evC ⟨xd, xc, xf, xt⟩) _ (blk_range HBX.out) Try.underlying51 rfl (info_size infoEv) ?_)
        refine HCL.out.mono ?_
        rintro e w3 ⟨rfl, f3, -⟩
        have HF4 := Lib.hid (HF1.out.trans f3 (fun _ _ q => q))
        clear f3
        go_wp2_with fail
        go_ret2
        exact ⟨_, rfl, Lib.hid (fun now was d q => by rw [HNO.out] at q; cases q), HF4.out⟩
    · obtain rfl : k = n3 := by omega
      have hkk : ¬ (k : Int) < (k : Int) := by omega
      have hev := HE.out
      rw [List.take_of_length_le (by rw [← HL.out.2]; exact Nat.le_refl _)] at hev
      obtain rfl : r = true := by rw [HR.out, hev]; rfl
      have HEV := Lib.hid hev
      clear hlt hev
      go_wp2_with fail
      go_ret2
      refine ⟨_, rfl, Lib.hid (fun now' was' d' q => ?_), HF.out⟩
      rw [HEV.out] at q
      injection q with q
      injection q with q
      subst q
      exact HO.out.1.ints
set_option maxRecDepth 100000 in
set_option maxHeartbeats 8000000 in
theorem pbeh_a {w : World} {t : TkD} {gl n1 n2 n3 c1 c2 c3 : Nat} {A1 A2 A3 : Option Addr} (till : Int) {nowF wasF : List Int} {dF : Int} (hE : evsOn till (st0 t n1) t.his = some (nowF, wasF, dF)) (hv : ∀ W, Fr (fun _ => False) w W → TkV W (tkC t (.slice A1 n1 c1) (.slice A2 n2 c2) (.slice A3 n3 c3)) t) (hl : Blk w gl 3 #[.int .i64 till])
    (hN : n1 = 1 ∨ n1 = 2 ∨ n1 = 3 ∨ n1 = 4) (h3 : n3 ≤ 1000) :
    Calls Try.prog 58 #[tkC t (.slice A1 n1 c1) (.slice A2 n2 c2) (.slice A3 n3 c3), .func (.func 59) #[] #[.pointer (some ⟨gl, 0, none⟩)]] w fun e w' => ∃ va, e = .returned (.tuple #[va, .bool (t.his.all fun x => decide (x.dy ≤ till))]) ∧ Hid (RowS w' w.heap.size va wasF) ∧ Fr (fun _ => False) w w' := by
  obtain ⟨r, hr⟩ : ∃ r, r = (t.his.all fun x => decide (x.dy ≤ till)) := ⟨_, rfl⟩
  rw [← hr]
  have HR := Lib.hid hr
  have HEF := Lib.hid hE
  have HV := Lib.hid hv
  have HLL := Lib.hid hl
  have HNN := Lib.hid hN
  have HGL := Lib.hid hl.lt
  obtain ⟨sc, sx, se, e9, a1, a2, a3⟩ := hv w (Fr.refl _ _)
  have HL : Hid (n1 = t.cps.length ∧ n3 = t.his.length) := Lib.hid (by
    injection e9 with e9
    simp only [tkA, Array.mk.injEq, List.cons.injEq, and_true, true_and] at e9
    obtain ⟨e1, e2, e3⟩ := e9
    obtain ⟨A, c, q1, _⟩ := a1.slice
    obtain ⟨A', c', q3, _⟩ := a3.slice
    rw [q1] at e1
    rw [q3] at e3
    injection e1 with _ e1 _
    injection e3 with _ e3 _
    exact ⟨e1, e3⟩)
  have HA : Hid (RwV w 4 evC (.slice A3 n3 c3) t.his) := Lib.hid (by
    injection e9 with e9
    simp only [tkA, Array.mk.injEq, List.cons.injEq, and_true, true_and] at e9
    rw [e9.2.2]
    exact a3)
  obtain ⟨W0, hW0⟩ : ∃ W, W = w.alloc (.cells (tkA t (.slice A1 n1 c1) (.slice A2 n2 c2) (.slice A3 n3 c3)) 27) := ⟨_, rfl⟩
  obtain ⟨W1, hW1⟩ : ∃ W, W = W0.alloc (.cells #[.int .i64 1] 41) := ⟨_, rfl⟩
  have HB0 : Hid (Fr (fun _ => False) w W0 ∧ Blk W0 w.heap.size 27 (tkA t (.slice A1 n1 c1) (.slice A2 n2 c2) (.slice A3 n3 c3))) := Lib.hid (by rw [hW0]; exact ⟨(Fr.refl _ w).alloc _, Blk.new w _ _⟩)
  have HB1 : Hid (Fr (fun _ => False) W0 W1 ∧ Blk W1 W0.heap.size 41 #[.int .i64 1]) := Lib.hid (by rw [hW1]; exact ⟨(Fr.refl _ W0).alloc _, Blk.new W0 _ _⟩)
  have HBT : Hid (Fr (fun _ => False) w W1 ∧ Blk W1 w.heap.size 27 (tkA t (.slice A1 n1 c1) (.slice A2 n2 c2) (.slice A3 n3 c3))) := Lib.hid ⟨HB0.out.1.trans HB1.out.1 (fun _ _ q => q), HB0.out.2.keep HB1.out.1 (fun q => q)⟩
  have HQ0 := Lib.hid hW0
  have HQ1 := Lib.hid hW1
  have HRP := Lib.hid (prepeat_any n1 hN (c := 1) (cp_cell HB1.out.2 0 rfl))
  have hx3 : (W0.alloc (.cells #[.int .i64 1] 41)).cell? ⟨w.heap.size, 3, none⟩ = some (.slice A1 n1 c1) := by rw [← hW1]; exact cp_cell HBT.out.2 3 rfl
  have hx0 : W0.cell? ⟨w.heap.size, 3, none⟩ = some (.slice A1 n1 c1) := cp_cell HB0.out.2 3 rfl
  clear hE
  have HN3 := Lib.hid h3
  have HMM : Hid (n1 ≤ 1000) := Lib.hid (by omega)
  clear hv hl hN h3 hr a1 a2 a3 e9 hW0 hW1
  go_enter Try.func58, Try.ntmps58
  go_upto_region 1 with fail
  rw [← HQ0.out]
  clear HQ0
  go_wp2_with fail
  rw [← HQ1.out]
  clear HQ1
  refine HRP.out.mono ?_
  rintro e w2 ⟨rfl, ho, f2⟩
  have HO := Lib.hid ho
  have HF2 := Lib.hid (HBT.out.1.trans f2 (fun _ _ q => q))
  have hx10 : w2.cell? ⟨w.heap.size, 10, none⟩ = some (.slice A3 n3 c3) := cp_cell (HBT.out.2.keep f2 (fun q => q)) 10 rfl
  have HSZ : Hid (w.heap.size < W1.heap.size) := Lib.hid HBT.out.2.lt
  clear hx3 hx0 ho f2 HRP
  generalize hgh : W1.heap.size = h at *
  go_wp2_with fail
  clear hx10
  have HE0 : Hid (evsOn till (st0 t n1) (t.his.take 0) = some (st0 t n1)) := Lib.hid rfl
  have HO0 : Hid (RowS w2 h (.slice (some ⟨h, 0, none⟩) n1 n1) (List.replicate n1 1) ∧ (List.replicate n1 (1 : Int)).length = n1) := Lib.hid ⟨HO.out, List.length_replicate⟩
  have HG0 : Hid (Blk w2 gl 3 #[.int .i64 till]) := Lib.hid (HLL.out.keep HF2.out (fun q => q))
  have HF0 : Hid (Fr (fun _ => False) w w2) := Lib.hid (Fr.mono HF2.out (fun _ _ q => q.elim))
  go_loopw [17] (fun x wr => ∃ (k : Nat) (now was : List Int) (d : Int), x = .int .i64 k ∧ k ≤ n3 ∧ Hid (evsOn till (st0 t n1) (t.his.take k) = some (now, was, d)) ∧ Hid (RowS wr h (.slice (some ⟨h, 0, none⟩) n1 n1) was ∧ was.length = n1) ∧ Hid (Blk wr gl 3 #[.int .i64 till]) ∧ Hid (Fr (fun _ => False) w wr) ∧ Hid (∀ i x, i < k → t.his[i]? = some x → x.dy ≤ till)) (fun x _ => n3 - (intOf x).toNat)
  case atStart => exact ⟨0, _, _, _, rfl, Nat.zero_le _, HE0, HO0, HG0, HF0, Lib.hid (fun i x hi => absurd hi (by omega))⟩
  case round =>
    clear HE0 HO0 HG0 HF0 HO HF2
    obtain ⟨k, now, was, d, rfl, hk, HE, HO, HG, HF, HD⟩ := hrel
    by_cases hlt : k < n3
    · obtain ⟨x1, hx⟩ : ∃ x, t.his[k]? = some x := ⟨_, List.getElem?_eq_getElem (by rw [← HL.out.2]; exact hlt)⟩
      obtain ⟨b3, o3, cc3, e3, hc3⟩ := HA.out.cell hx
      injection e3 with e3 e3n e3c
      subst e3
      have hvr : RwV wr 4 evC (.slice (some ⟨b3, o3, none⟩) n3 c3) t.his := by
        obtain ⟨sc, sx, se, e9, a1, a2, a3⟩ := HV.out wr HF.out
        injection e9 with e9
        simp only [tkA, Array.mk.injEq, List.cons.injEq, and_true, true_and] at e9
        rw [e9.2.2]
        exact a3
      obtain ⟨b4, o4, cc4, e4, hc4⟩ := hvr.cell hx
      injection e4 with e4 e4n e4c
      injection e4 with e4
      injection e4 with e4a e4b _
      subst e4a e4b
      have hy1 : wr.rangeAt b3 (o3 + k * 4) (evC x1) := fun j u hu => hc4 j u hu
      have hk0 : (0 : Int) ≤ (k : Int) := by omega
      have hkm : (k : Int) < (n3 : Int) := by omega
      have HXY := Lib.hid (And.intro hx hlt)
      have hstep := evsOn_snoc till (t.his.take k) (st0 t n1) x1
      rw [HE.out, ← take_succ' hx, Option.bind_some, evOn_G] at hstep
      have HST := Lib.hid hstep
      have HLN := Lib.hid (evsOn_len till _ _ _ HE.out)
      clear hx hc3 e3n e3c hlt hvr hc4 e4n e4c hstep
      go_upto_region 5 with (refine wpList_load_mid rfl 51 (.tmp 19) rfl b3 (o3 + k * 4) rfl (evC x1) _ hy1 Try.underlying51 rfl (info_size infoEv) ?_)
      obtain ⟨xd, xc, xf, xt⟩ := x1
      obtain ⟨W3, hW3⟩ : ∃ W, W = wr.alloc (.cells #[.int .i64 xd, .int .i64 xc, .int .i64 xf, .int .i64 xt] 51) := ⟨_, rfl⟩
      have f1 : Fr (fun _ => False) wr W3 := by rw [hW3]; exact (Fr.refl _ wr).alloc _
      have hb1 : Blk W3 wr.heap.size 51 #[.int .i64 xd, .int .i64 xc, .int .i64 xf, .int .i64 xt] := by rw [hW3]; exact Blk.new wr _ _
      have HF1 : Hid (Fr (fun _ => False) w W3) := Lib.hid (HF.out.trans f1 (fun _ _ q => q.elim))
      have HBX := Lib.hid hb1
      have HO3 := Lib.hid (And.intro (HO.out.1.keep0 f1) HO.out.2)
      have HG3 := Lib.hid (HG.out.keep f1 (fun q => q))
      have HHB : Hid (h < wr.heap.size ∧ gl < wr.heap.size ∧ gl < h) := Lib.hid ⟨row_lt HO.out.1 rfl, HG.out.lt, Nat.lt_trans HGL.out HSZ.out⟩
      have HCL := Lib.hid (pat1_any (w := W3) ⟨xd, xc, xf, xt⟩ (.slice (some ⟨h, 0, none⟩) n1 n1) (cp_cell HG3.out 0 rfl))
      rw [← hW3]
      clear hW3 f1 hb1 hy1 hk0 hkm HO HG HF HE
      generalize hge : wr.heap.size = ge at *
      clear hge
      cases he : decide (xd ≤ till) with
      | true =>
        have hg : tellG now d ⟨xd, xc, xf, xt⟩ = true := by
          have h5 := HEF.out
          rw [← List.take_append_drop (k + 1) t.his, evsOn_app, HST.out] at h5
          by_cases g : tellG now d ⟨xd, xc, xf, xt⟩ = true
          · exact g
          · rw [if_neg g] at h5
            cases h5
        have hle : xd ≤ till := of_decide_eq_true he
        have hst : evsOn till (st0 t n1) (t.his.take (k + 1)) = some (now.set (xc - 1).toNat xt, was.set (xc - 1).toNat xt, xd) := by rw [HST.out, hg, if_pos rfl]; simp only; rw [if_pos hle]
        obtain ⟨m, hm1, hm2, hm3⟩ := tellG_ix hg
        simp only at hm1 hm2 hm3
        rw [HLN.out.1, show (st0 t n1).1.length = n1 from List.length_replicate] at hm2
        rw [show decide ((⟨xd, xc, xf, xt⟩ : EvT).dy ≤ till) = true from he] at HCL
        have HLE := Lib.hid hle
        clear hg hle
        rw [hm3] at hst
        obtain ⟨i1, i2, i3, i4⟩ : xc - 1 = (m : Int) ∧ wrap64 (m : Int) = (m : Int) ∧ (0 : Int) ≤ (m : Int) ∧ (m : Int) < (n1 : Int) := ⟨by omega, wrap64_in (by omega) (by have := HMM.out; omega), by omega, by omega⟩
        have HSTN := Lib.hid (And.intro hst hm2)
        clear hst he hm1 hm3 HST
        go_wp2_with (refine wpList_load_mid rfl 51 (.tmp 8) rfl ge 0 rfl (evC ⟨xd, xc, xf, xt⟩) _ (blk_range HBX.out) Try.underlying51 rfl (info_size infoEv) ?_)
        refine HCL.out.mono ?_
        rintro e w3 ⟨rfl, f3⟩
        have HF4 := Lib.hid (HF1.out.trans f3 (fun _ _ q => q))
        have HO4 : Hid (RowS w3 h (.slice (some ⟨h, 0, none⟩) n1 n1) was) := Lib.hid (HO3.out.1.keep f3 (fun b hb q => q))
        have HB4 : Hid (Blk w3 ge 51 #[.int .i64 xd, .int .i64 xc, .int .i64 xf, .int .i64 xt]) := Lib.hid (HBX.out.keep f3 (fun q => q))
        have HG4 : Hid (Blk w3 gl 3 #[.int .i64 till]) := Lib.hid (HG3.out.keep f3 (fun q => q))
        have hz1 := cp_cell HB4.out 1 (v := .int .i64 xc) rfl
        have hz3 := cp_cell HB4.out 3 (v := .int .i64 xt) rfl
        obtain ⟨z9, hz9⟩ : ∃ z, was[m]? = some z := ⟨_, List.getElem?_eq_getElem (by rw [HO3.out.2]; exact HSTN.out.2)⟩
        obtain ⟨g9, cap9, e9, hc9⟩ := HO4.out.cell hz9
        injection e9 with e9 e9n e9c
        clear e9n e9c
        injection e9 with e9
        injection e9 with e9
        subst e9
        have hfz := HO4.out.frozen (i := m)
        have HS5 : Hid (RowS (w3.setCell ⟨h, m, none⟩ (.int .i64 xt)) h (.slice (some ⟨h, 0, none⟩) n1 n1) (was.set m xt)) := Lib.hid (HO4.out.set (by rw [HO3.out.2]; exact HSTN.out.2) xt)
        have HF5 : Hid (Fr (fun _ => False) w (w3.setCell ⟨h, m, none⟩ (.int .i64 xt))) := Lib.hid (HF4.out.setCell (.inr (Nat.le_of_lt HSZ.out)) _)
        have HG5 : Hid (Blk (w3.setCell ⟨h, m, none⟩ (.int .i64 xt)) gl 3 #[.int .i64 till]) := Lib.hid (HG4.out.keep ((Fr.refl (fun b => b = h) w3).setCell (p := ⟨h, m, none⟩) (.inl rfl) _) (fun q => by have h6 : gl = h := q; have := HHB.out.2.2; omega))
        clear f3 hz9 
        have hn3 := HN3.out
        go_wp2_with fail
        refine ⟨⟨k + 1, _, _, _, by go_num, by have := HXY.out.2; omega, Lib.hid HSTN.out.1, Lib.hid ⟨HS5.out, by rw [List.length_set]; exact HO3.out.2⟩, HG5, HF5, Lib.hid (fun i y hi hy => ?_)⟩, ?_⟩
        · rcases Nat.lt_or_ge i k with q | q
          · exact HD.out i y q hy
          · obtain rfl : i = k := by omega
            rw [HXY.out.1] at hy
            injection hy with hy
            rw [← hy]
            exact HLE.out
        · simp [intOf]
          have := HXY.out.2
          omega
      | false =>
        obtain rfl : r = false := by
          rw [HR.out, List.all_eq_false]
          exact ⟨_, List.mem_of_getElem? HXY.out.1, by rw [show ((⟨xd, xc, xf, xt⟩ : EvT).dy) = xd from rfl, he]; simp⟩
        rw [show decide ((⟨xd, xc, xf, xt⟩ : EvT).dy ≤ till) = false from he] at HCL
        have hwas : was = wasF := by
          have hd : till < xd := by have := of_decide_eq_false he; omega
          have h5 := HEF.out
          rw [← List.take_append_drop (k + 1) t.his, evsOn_app, HST.out] at h5
          by_cases g : tellG now d ⟨xd, xc, xf, xt⟩ = true
          · rw [if_pos g, Option.bind_some] at h5
            have h6 := evsOn_late till _ _ _ h5 hd
            simp only at h6
            rw [if_neg (by omega)] at h6
            exact h6.symm
          · rw [if_neg g] at h5
            cases h5
        have HWA := Lib.hid hwas
        clear he hwas HST
        go_wp2_with (refine wpList_load_mid rfl 51 (.tmp 8) rfl ge 0 rfl (evC ⟨xd, xc, xf, xt⟩) _ (blk_range HBX.out) Try.underlying51 rfl (info_size infoEv) ?_)
        refine HCL.out.mono ?_
        rintro e w3 ⟨rfl, f3⟩
        have HF4 := Lib.hid (HF1.out.trans f3 (fun _ _ q => q))
        have HO4 := Lib.hid (HO3.out.1.keep0 f3)
        clear f3
        go_wp2_with fail
        go_ret2
        refine ⟨_, rfl, Lib.hid ?_, HF4.out⟩
        rw [← HWA.out]
        exact ⟨HO4.out.1, HO4.out.2.elim .inl (fun ⟨g, c, cs, q1, q2, q3⟩ => .inr ⟨g, c, cs, q1, Nat.le_trans (Nat.le_of_lt HSZ.out) q2, q3⟩)⟩
    · obtain rfl : k = n3 := by omega
      have hkk : ¬ (k : Int) < (k : Int) := by omega
      have hev := HE.out
      rw [List.take_of_length_le (by rw [← HL.out.2]; exact Nat.le_refl _)] at hev
      obtain rfl : r = true := by
        rw [HR.out, List.all_eq_true]
        intro x hx
        obtain ⟨j, hj⟩ := List.mem_iff_getElem?.1 hx
        exact decide_eq_true (HD.out j x (by rw [HL.out.2]; exact (List.getElem?_eq_some_iff.1 hj).1) hj)
      have hwas : was = wasF := by
        rw [HEF.out] at hev
        injection hev with hev
        injection hev with _ hev
        injection hev with hev
        exact hev.symm
      have HWA := Lib.hid hwas
      clear hlt hev hwas
      go_wp2_with fail
      go_ret2
      refine ⟨_, rfl, Lib.hid ?_, HF.out⟩
      rw [← HWA.out]
      exact ⟨HO.out.1.1, HO.out.1.2.elim .inl (fun ⟨g, c, cs, q1, q2, q3⟩ => .inr ⟨g, c, cs, q1, Nat.le_trans (Nat.le_of_lt HSZ.out) q2, q3⟩)⟩
end Go.Proofs.Ytmopkfjnjbimnaa
