/- couponref13's Change. -/
import Derived.Test.YtmopkfjnjbimnaaKcm
namespace Go.Proofs.Ytmopkfjnjbimnaa
open Go.RowKit

structure RcW (w W : World) (gZ g12 g13 : Nat) (O z X : Array Value) : Prop where
  fr : Fr (fun _ => False) w W
  bz : Blk W gZ 27 z
  b12 : Blk W g12 27 O
  b13 : Blk W g13 49 X
theorem RcW.keepF {w W W' : World} {gZ g12 g13 : Nat} {O z X : Array Value} {F : Nat → Prop} (h : RcW w W gZ g12 g13 O z X) (f : Fr F W W') (hF : ∀ b, F b → b ≠ gZ ∧ b ≠ g12 ∧ b ≠ g13 ∧ w.heap.size ≤ b) : RcW w W' gZ g12 g13 O z X :=
  ⟨h.fr.trans f (fun b hb q => by have := hF b q; omega), h.bz.keep f (fun q => (hF _ q).1 rfl), h.b12.keep f (fun q => (hF _ q).2.1 rfl), h.b13.keep f (fun q => (hF _ q).2.2.1 rfl)⟩
theorem RcW.keep0 {w W W' : World} {gZ g12 g13 : Nat} {O z X : Array Value} (h : RcW w W gZ g12 g13 O z X) (f : Fr (fun _ => False) W W') : RcW w W' gZ g12 g13 O z X := h.keepF f (fun b q => q.elim)
/-- A cell of the coupon put anew. -/
theorem RcW.set13 {w W : World} {gZ g12 g13 : Nat} {O z X : Array Value} (h : RcW w W gZ g12 g13 O z X) (i : Nat) (v : Value) (h1 : g13 ≠ gZ) (h2 : g13 ≠ g12) (h3 : w.heap.size ≤ g13) : RcW w (W.setCell ⟨g13, i, none⟩ v) gZ g12 g13 O z (X.setIfInBounds i v) ∧ Fr (fun b => b = g13) W (W.setCell ⟨g13, i, none⟩ v) := by
  have f : Fr (fun b => b = g13) W (W.setCell ⟨g13, i, none⟩ v) := (Fr.refl (fun b => b = g13) W).setCell (p := ⟨g13, i, none⟩) (.inl rfl) v
  exact ⟨⟨h.fr.trans f (fun b hb q => by have h6 : b = g13 := q; omega), h.bz.keep f (fun q => h1 q.symm), h.b12.keep f (fun q => h2 q.symm), h.b13.set_ i v⟩, f⟩
theorem RcW.set12 {w W : World} {gZ g12 g13 : Nat} {O z X : Array Value} (h : RcW w W gZ g12 g13 O z X) (i : Nat) (v : Value) (h1 : g12 ≠ gZ) (h2 : g12 ≠ g13) (h3 : w.heap.size ≤ g12) : RcW w (W.setCell ⟨g12, i, none⟩ v) gZ g12 g13 (O.setIfInBounds i v) z X ∧ Fr (fun b => b = g12) W (W.setCell ⟨g12, i, none⟩ v) := by
  have f : Fr (fun b => b = g12) W (W.setCell ⟨g12, i, none⟩ v) := (Fr.refl (fun b => b = g12) W).setCell (p := ⟨g12, i, none⟩) (.inl rfl) v
  exact ⟨⟨h.fr.trans f (fun b hb q => by have h6 : b = g12 := q; omega), h.bz.keep f (fun q => h1 q.symm), h.b12.set_ i v, h.b13.keep f (fun q => h2 q.symm)⟩, f⟩
theorem rwo_off {α : Type} {w W : World} {B g : Nat} {T T' : TypeId} {k : Nat} {enc : α → List Value} {v : Value} {xs : List α} {cs : Array Value} (h : RwO w B T k enc v xs) (f : Fr (fun b => b = g) w W) (hb : Blk w g T' cs) (hT : T ≠ T') : RwO W B T k enc v xs :=
  h.keep f (fun b hb' q => by
    have h6 : b = g := q
    subst h6
    obtain ⟨_, k1⟩ := h.type hb'
    exact hT (blk_apart k1 hb))
theorem rwo_cp {α : Type} {w W : World} {B g g4 n c : Nat} {T : TypeId} {k : Nat} {enc : α → List Value} {xs : List α} (h : RwO w B T k enc (.slice (some ⟨g4, 0, none⟩) n c) xs) (f : Fr (fun b => b = g) w W) (hg : g4 ≠ g) : RwO W B T k enc (.slice (some ⟨g4, 0, none⟩) n c) xs :=
  h.keep f (fun b hb q => by
    injection hb with hb
    have h7 : g4 = b := hb
    have h6 : b = g := q
    exact hg (h7.trans h6))
set_option maxRecDepth 100000 in
set_option maxHeartbeats 8000000 in
theorem rchange_any {w : World} {v : Value} {t : TkD} (hv : TkV w v t) (hok : TkOk t) (hm : muchT t = false) (c d s : Int) (hs : i64B s) (k : Nat) (hk : u64B k) :
    Calls Try.prog 18 #[v, .int .i64 c, .int .i64 d, .int .i64 s, .int .u64 (k : Nat)] w fun e w' => ∃ v', e = .returned (.tuple #[v', .int .i64 (chgE t c d s k : Nat)]) ∧ TkO w' w.heap.size v' (chgT t c d s k) ∧ Fr (fun _ => False) w w' := by
  have hsm : t.cps.length ≤ 20 ∧ t.txs.length ≤ 20 ∧ t.his.length ≤ 100 ∧ t.loc.size ≤ 100 := by
    unfold muchT at hm
    simp only [Bool.or_eq_false_iff, decide_eq_false_iff_not] at hm
    omega
  have HV := Lib.hid hv
  obtain ⟨sc, sx, se, rfl, a1, a2, a3⟩ := hv
  have HT := Lib.hid hok
  obtain ⟨E, hE⟩ : ∃ E, E = chgE t c d s k := ⟨_, rfl⟩
  obtain ⟨R, hR⟩ : ∃ R, R = chgT t c d s k := ⟨_, rfl⟩
  rw [← hE, ← hR]
  have HER := Lib.hid (And.intro hE hR)
  have HA := Lib.hid (And.intro a1 (And.intro a2 a3))
  obtain ⟨A1, n1, c1, e1, l1⟩ : ∃ A n c, sc = .slice A n c ∧ n = t.cps.length := by obtain ⟨A, c, e, _⟩ := a1.slice; exact ⟨A, _, c, e, rfl⟩
  obtain ⟨A2, n2, c2, e2, l2⟩ : ∃ A n c, sx = .slice A n c ∧ n = t.txs.length := by obtain ⟨A, c, e, _⟩ := a2.slice; exact ⟨A, _, c, e, rfl⟩
  obtain ⟨A3, n3, c3, e3, l3⟩ : ∃ A n c, se = .slice A n c ∧ n = t.his.length := by obtain ⟨A, c, e, _⟩ := a3.slice; exact ⟨A, _, c, e, rfl⟩
  subst e1 e2 e3
  have HL := Lib.hid (And.intro l1 (And.intro l2 (And.intro l3 hsm)))
  obtain ⟨W0, hW0⟩ : ∃ W0, W0 = (w.alloc (.cells (tkA t (.slice A1 n1 c1) (.slice A2 n2 c2) (.slice A3 n3 c3)) 27)).alloc (.cells #[.int .u64 0, .string ⟨#[]⟩, .int .i64 0, .slice none 0 0, .slice none 0 0, .int .u64 0, .int .u64 0, .int .u64 0, .int .i64 0, .int .i64 0, .slice none 0 0] 27) := ⟨_, rfl⟩
  have HB : Hid (Fr (fun _ => False) w W0 ∧ Blk W0 w.heap.size 27 (tkA t (.slice A1 n1 c1) (.slice A2 n2 c2) (.slice A3 n3 c3)) ∧ Blk W0 (w.heap.size + 1) 27 zTk) := Lib.hid (by
    rw [hW0]
    have e9 : (w.alloc (.cells (tkA t (.slice A1 n1 c1) (.slice A2 n2 c2) (.slice A3 n3 c3)) 27)).heap.size = w.heap.size + 1 := Array.size_push _
    refine ⟨((Fr.refl _ w).alloc _).alloc _, (Blk.new w _ _).keep ((Fr.refl (fun _ => False) _).alloc _) (fun q => q), ?_⟩
    have := Blk.new (w.alloc (.cells (tkA t (.slice A1 n1 c1) (.slice A2 n2 c2) (.slice A3 n3 c3)) 27)) 27 zTk
    rwa [e9] at this)
  have HQ := Lib.hid hW0
  have HMT := Lib.hid (fun W f => rmayt_any (w := W) (HV.out.keep0 f) hok (by omega))
  have HMW := Lib.hid (fun W => rwith_any t.num hok.num s k hk W)
  have HCO := Lib.hid (fun W f => rcopy_any (w := W) (HV.out.keep0 f) (by omega) (by omega) (by omega))
  have HLA := Lib.hid (fun W f => rlastt_any (w := W) (HV.out.keep0 f) (by omega))
  have HCD := Lib.hid (And.intro hs hk)
  clear a1 a2 a3 l1 l2 l3 hW0 hok hm hsm hE hR hs hk
  go_enter Try.func18, Try.ntmps18
  go_upto_region 1 with fail
  rw [← HQ.out]
  clear HQ
  cases e0 : mayT t with
  | false =>
    rw [e0] at HMT
    have HBL := Lib.hid (HB.out.2.1)
    go_wp2_with ((first | refine wpList_load_mid rfl 27 (.tmp 5) rfl w.heap.size 0 rfl (tkA t (.slice A1 n1 c1) (.slice A2 n2 c2) (.slice A3 n3 c3)).toList _ (blk_range (HBL.out)) Try.underlying27 rfl infoTk ?_ | refine wpList_load_want (by rfl) 27 (.tmp 5) rfl w.heap.size 0 rfl (tkA t (.slice A1 n1 c1) (.slice A2 n2 c2) (.slice A3 n3 c3)).toList _ (blk_range (HBL.out)) Try.underlying27 rfl infoTk ?_))
    clear HBL
    refine (HMT.out _ (HB.out.1)).mono ?_
    rintro e w1 ⟨rfl, f1⟩
    have HZ := Lib.hid (HB.out.2.2.keep f1 (fun q => q))
    have HBX := Lib.hid (HB.out.2.1.keep f1 (fun q => q))
    have HF1 := Lib.hid (HB.out.1.trans f1 (fun _ _ q => q))
    clear f1
    obtain ⟨rfl, rfl⟩ : E = 2 ∧ R = noTk := by
      have h9 : chgE t c d s k = 2 := by unfold chgE; rw [if_neg (by rw [e0]; simp)]
      exact ⟨HER.out.1.trans h9, HER.out.2.trans (by unfold chgT; rw [h9]; rfl)⟩
    have HX7 := Lib.hid (fr_cells (F := fun _ => False) (a := w) (b := w.heap.size + 1) (.inr (Nat.le_succ _)) zTk.toList 0 w1 (HF1.out))
    have HX8 := Lib.hid (HZ.out)
    go_wp2_with (refine wpList_store_mid rfl 27 (.tmp 10) (.tmp 36) rfl (w.heap.size + 1) 0 zTk rfl rfl (blk_there HX8.out (Nat.le_refl 11)) (infoTk' noTk _ _ _) (tkA_one noTk none none none 0 0 0 0 0 0) ?_)
    refine bodyPost_ret (results_tk rfl _ _ (w.heap.size + 1) zTk rfl (blk_row HX8.out rfl) rfl) rfl ?_
    exact ⟨_, rfl, tk_none _ _, HX7.out⟩
  | true =>
    rw [e0] at HMT
    have HBL := Lib.hid (HB.out.2.1)
    go_wp2_with ((first | refine wpList_load_mid rfl 27 (.tmp 5) rfl w.heap.size 0 rfl (tkA t (.slice A1 n1 c1) (.slice A2 n2 c2) (.slice A3 n3 c3)).toList _ (blk_range (HBL.out)) Try.underlying27 rfl infoTk ?_ | refine wpList_load_want (by rfl) 27 (.tmp 5) rfl w.heap.size 0 rfl (tkA t (.slice A1 n1 c1) (.slice A2 n2 c2) (.slice A3 n3 c3)).toList _ (blk_range (HBL.out)) Try.underlying27 rfl infoTk ?_))
    clear HBL
    refine (HMT.out _ (HB.out.1)).mono ?_
    rintro e w1 ⟨rfl, f1⟩
    have HZ := Lib.hid (HB.out.2.2.keep f1 (fun q => q))
    have HBX := Lib.hid (HB.out.2.1.keep f1 (fun q => q))
    have HF1 := Lib.hid (HB.out.1.trans f1 (fun _ _ q => q))
    clear f1
    have q0 : w1.cell? ⟨w.heap.size, 0, none⟩ = some (.int .u64 (t.num : Nat)) := cp_cell HBX.out 0 rfl
    have q3 : w1.cell? ⟨w.heap.size, 3, none⟩ = some (.slice A1 n1 c1) := cp_cell HBX.out 3 rfl
    by_cases g1 : 1 ≤ c
    · have g1i : ¬ c < 1 := by omega
      by_cases g2 : c ≤ (n1 : Int)
      · have g2i : ¬ (n1 : Int) < c := by omega
        cases g3 : withB t.num s k with
        | false =>
          rw [g3] at HMW
          go_wp2_with fail
          refine (HMW.out _).mono ?_
          rintro e w2 ⟨rfl, f2⟩
          have HZ2 := Lib.hid (HZ.out.keep f2 (fun q => q))
          have HF2 := Lib.hid (HF1.out.trans f2 (fun _ _ q => q))
          clear f2
          obtain ⟨rfl, rfl⟩ : E = 2 ∧ R = noTk := by
            have h9 : chgE t c d s k = 2 := by unfold chgE; rw [if_neg (by rw [g3]; simp)]
            exact ⟨HER.out.1.trans h9, HER.out.2.trans (by unfold chgT; rw [h9]; rfl)⟩
          have HX7 := Lib.hid (fr_cells (F := fun _ => False) (a := w) (b := w.heap.size + 1) (.inr (Nat.le_succ _)) zTk.toList 0 w2 (HF2.out))
          have HX8 := Lib.hid (HZ2.out)
          go_wp2_with (refine wpList_store_mid rfl 27 (.tmp 10) (.tmp 36) rfl (w.heap.size + 1) 0 zTk rfl rfl (blk_there HX8.out (Nat.le_refl 11)) (infoTk' noTk _ _ _) (tkA_one noTk none none none 0 0 0 0 0 0) ?_)
          refine bodyPost_ret (results_tk rfl _ _ (w.heap.size + 1) zTk rfl (blk_row HX8.out rfl) rfl) rfl ?_
          exact ⟨_, rfl, tk_none _ _, HX7.out⟩
        | true =>
          rw [g3] at HMW
          have HWT := Lib.hid g3
          have HE1 := Lib.hid (And.intro g1 g2)
          go_wp2_with fail
          refine (HMW.out _).mono ?_
          rintro e w2 ⟨rfl, f2⟩
          clear q0 q3 g1i g2i
          have HZ2 := Lib.hid (HZ.out.keep f2 (fun q => q))
          have HBX2 := Lib.hid (HBX.out.keep f2 (fun q => q))
          have HF2 := Lib.hid (HF1.out.trans f2 (fun _ _ q => q))
          clear f2 HZ HBX HF1 HMW HMT g1 g2 g3
          obtain ⟨m, hm⟩ : ∃ m : Nat, c = (m : Int) + 1 := ⟨(c - 1).toNat, by have := HE1.out; omega⟩
          have hmn : m < n1 := by have := HE1.out; omega
          have HM : Hid (c = (m : Int) + 1 ∧ m < n1 ∧ (c - 1).toNat = m) := Lib.hid ⟨hm, hmn, by omega⟩
          obtain ⟨x1, hx⟩ : ∃ x, t.cps[m]? = some x := ⟨_, List.getElem?_eq_getElem (by rw [← HL.out.1]; exact hmn)⟩
          have HX := Lib.hid hx
          have HXO := Lib.hid (HT.out.cps x1 (List.mem_of_getElem? hx))
          have HST : Hid ((t.cps.map CpD.st).getD (c - 1).toNat 0 = x1.st) := Lib.hid (by rw [HM.out.2.2, List.getD_eq_getElem?_getD, List.getElem?_map, HX.out]; rfl)
          obtain ⟨i1, i2, i3, i4⟩ : c - 1 = (m : Int) ∧ wrap64 (m : Int) = (m : Int) ∧ (0 : Int) ≤ (m : Int) ∧ (m : Int) < (n1 : Int) := ⟨by omega, wrap64_in (by omega) (by have := HL.out.1; have := HL.out.2.2.2; omega), by omega, by omega⟩
          clear hm hmn
          have HBL := Lib.hid (HBX2.out)
          go_wp2_with ((first | refine wpList_load_mid rfl 27 (.tmp 5) rfl w.heap.size 0 rfl (tkA t (.slice A1 n1 c1) (.slice A2 n2 c2) (.slice A3 n3 c3)).toList _ (blk_range (HBL.out)) Try.underlying27 rfl infoTk ?_ | refine wpList_load_want (by rfl) 27 (.tmp 5) rfl w.heap.size 0 rfl (tkA t (.slice A1 n1 c1) (.slice A2 n2 c2) (.slice A3 n3 c3)).toList _ (blk_range (HBL.out)) Try.underlying27 rfl infoTk ?_))
          clear HBL
          refine (HCO.out _ (HF2.out)).mono ?_
          rintro e w3 ⟨ov, rfl, ⟨oc, ox, oe, rfl, ho1, ho2, ho3⟩, f3⟩
          obtain ⟨g4, c4, cur4, ev4, hcur4, hB4, hget4⟩ := rwo_get ho1 cpC_len hx
          obtain ⟨A5, n5, c5, ev5⟩ : ∃ A n c, ox = .slice A n c := by obtain ⟨A, c, e, _⟩ := own_slice ho2; exact ⟨A, _, c, e⟩
          obtain ⟨A6, n6, c6, ev6⟩ : ∃ A n c, oe = .slice A n c := by obtain ⟨A, c, e, _⟩ := own_slice ho3; exact ⟨A, _, c, e⟩
          rw [← HL.out.1] at ev4
          obtain ⟨n4, hn4⟩ : ∃ n, n = n1 := ⟨_, rfl⟩
          rw [← hn4] at ev4 i4
          have HN4 := Lib.hid hn4
          subst ev4 ev5 ev6
          obtain ⟨B7, hB7⟩ : ∃ B, B = w2.heap.size := ⟨_, rfl⟩
          rw [← hB7] at ho1 ho2 ho3 hB4
          have HGB : Hid (w.heap.size + 1 < B7 ∧ B7 ≤ g4) := Lib.hid ⟨by rw [hB7]; exact HZ2.out.lt, hB4⟩
          have HO3 := Lib.hid (And.intro ho1 (And.intro ho2 ho3))
          have HZ3 := Lib.hid (HZ2.out.keep f3 (fun q => q))
          have HBX3 := Lib.hid (HBX2.out.keep f3 (fun q => q))
          have HF3 := Lib.hid (HF2.out.trans f3 (fun _ _ q => q))
          have HS3 := Lib.hid (show B7 ≤ w3.heap.size by rw [hB7]; exact f3.size)
          have HRA : Hid (w3.rangeAt g4 (m * 6) (cpC x1)) := Lib.hid (fun j u hu => by rw [hcur4.cell]; exact hget4 m x1 j u hx hu)
          have HG4L := Lib.hid hcur4.lt
          clear f3 ho1 ho2 ho3 hcur4 hget4 hB4 hx hB7 HZ2 HBX2 HF2 HCO hn4
          go_upto_region 4 with fail
          obtain ⟨W4, hW4⟩ : ∃ W, W = w3.alloc (.cells (tkA t (.slice (some ⟨g4, 0, none⟩) n4 c4) (.slice A5 n5 c5) (.slice A6 n6 c6)) 27) := ⟨_, rfl⟩
          obtain ⟨g12, hg12⟩ : ∃ g, g = w3.heap.size := ⟨_, rfl⟩
          have HW4 : Hid (Fr (fun _ => False) w3 W4 ∧ Blk W4 g12 27 (tkA t (.slice (some ⟨g4, 0, none⟩) n4 c4) (.slice A5 n5 c5) (.slice A6 n6 c6))) := Lib.hid (by rw [hW4, hg12]; exact ⟨(Fr.refl _ w3).alloc _, Blk.new w3 _ _⟩)
          have HG12 : Hid (g4 < g12 ∧ B7 ≤ g12 ∧ g12 < W4.heap.size) := Lib.hid ⟨by rw [hg12]; exact HG4L.out, by rw [hg12]; exact HS3.out, HW4.out.2.lt⟩
          have hq3 : W4.cell? ⟨g12, 3, none⟩ = some (.slice (some ⟨g4, 0, none⟩) n4 c4) := cp_cell HW4.out.2 3 rfl
          have hr4 : W4.rangeAt g4 (m * 6) (cpC x1) := fun j u hu => (HW4.out.1.cell (by show g4 < w3.heap.size; exact HG4L.out) (fun q => q)).trans (HRA.out j u hu)
          rw [← hW4, ← hg12]
          clear hW4 hg12
          go_upto_region 5 with (refine wpList_load_mid rfl 49 (.tmp 43) rfl g4 (m * 6) rfl (cpC x1) _ hr4 Try.underlying49 rfl (info_size infoCp) ?_)
          clear hq3 hr4
          obtain ⟨fl, dy, va, st, ho, nx⟩ := x1
          obtain ⟨W5, hW5⟩ : ∃ W, W = W4.alloc (.cells #[.int .i64 fl, .int .i64 dy, .int .i64 va, .int .i64 st, .int .i64 ho, .int .u64 (nx : Nat)] 49) := ⟨_, rfl⟩
          obtain ⟨g13, hg13⟩ : ∃ g, g = W4.heap.size := ⟨_, rfl⟩
          have HFA : Hid (Fr (fun _ => False) W4 W5) := Lib.hid (by rw [hW5]; exact (Fr.refl _ W4).alloc _)
          have HRC : Hid (RcW w W5 (w.heap.size + 1) g12 g13 (tkA t (.slice (some ⟨g4, 0, none⟩) n4 c4) (.slice A5 n5 c5) (.slice A6 n6 c6)) zTk #[.int .i64 fl, .int .i64 dy, .int .i64 va, .int .i64 st, .int .i64 ho, .int .u64 (nx : Nat)] ∧ g12 < g13) := Lib.hid (by
            refine ⟨⟨(HF3.out.trans HW4.out.1 (fun _ _ q => q)).trans HFA.out (fun _ _ q => q), (HZ3.out.keep HW4.out.1 (fun q => q)).keep HFA.out (fun q => q), HW4.out.2.keep HFA.out (fun q => q), by rw [hW5, hg13]; exact Blk.new W4 _ _⟩, by rw [hg13]; exact HG12.out.2.2⟩)
          have HBX5 := Lib.hid ((HBX3.out.keep HW4.out.1 (fun q => q)).keep HFA.out (fun q => q))
          have HO5 := Lib.hid (show RwO W5 B7 49 6 cpC (.slice (some ⟨g4, 0, none⟩) n4 c4) t.cps ∧ RwO W5 B7 62 2 txC (.slice A5 n5 c5) t.txs ∧ RwO W5 B7 51 4 evC (.slice A6 n6 c6) t.his from ⟨(HO3.out.1.keep0 HW4.out.1).keep0 HFA.out, (HO3.out.2.1.keep0 HW4.out.1).keep0 HFA.out, (HO3.out.2.2.keep0 HW4.out.1).keep0 HFA.out⟩)
          rw [← hW5, ← hg13]
          clear hW5 hg13 HFA HW4 HO3 HZ3 HBX3 HF3 HRA
          have HLD := Lib.hid (fun W => rleads_any st s W)
          have hz3 : W5.cell? ⟨g13, 3, none⟩ = some (.int .i64 st) := cp_cell HRC.out.1.b13 3 rfl
          cases e5 : leadsS st s with
          | false =>
            rw [e5] at HLD
            go_wp2_with fail
            refine (HLD.out _).mono ?_
            rintro e w6 ⟨rfl, f6⟩
            have HC6 := Lib.hid (HRC.out.1.keep0 f6)
            clear f6
            obtain ⟨rfl, rfl⟩ : E = 9 ∧ R = noTk := by
              have h9 : chgE t c d s k = 9 := by unfold chgE; rw [if_pos ⟨e0, HE1.out.1, (by rw [← HL.out.1]; exact HE1.out.2), HWT.out⟩, HST.out, if_neg (by rw [e5]; simp)]
              exact ⟨HER.out.1.trans h9, HER.out.2.trans (by unfold chgT; rw [h9]; rfl)⟩
            have HX7 := Lib.hid (fr_cells (F := fun _ => False) (a := w) (b := w.heap.size + 1) (.inr (Nat.le_succ _)) zTk.toList 0 w6 (HC6.out.fr))
            have HX8 := Lib.hid (HC6.out.bz)
            go_wp2_with (refine wpList_store_mid rfl 27 (.tmp 10) (.tmp 50) rfl (w.heap.size + 1) 0 zTk rfl rfl (blk_there HX8.out (Nat.le_refl 11)) (infoTk' noTk _ _ _) (tkA_one noTk none none none 0 0 0 0 0 0) ?_)
            refine bodyPost_ret (results_tk rfl _ _ (w.heap.size + 1) zTk rfl (blk_row HX8.out rfl) rfl) rfl ?_
            exact ⟨_, rfl, tk_none _ _, HX7.out⟩
          | true =>
            rw [e5] at HLD
            go_wp2_with fail
            refine (HLD.out _).mono ?_
            rintro e w6 ⟨rfl, f6⟩
            have HC6 := Lib.hid (And.intro (HRC.out.1.keep0 f6) HRC.out.2)
            have HBX6 := Lib.hid (HBX5.out.keep f6 (fun q => q))
            have HO6 := Lib.hid (And.intro (HO5.out.1.keep0 f6) (And.intro (HO5.out.2.1.keep0 f6) (HO5.out.2.2.keep0 f6)))
            have HE5 := Lib.hid e5
            clear e5 HLD hz3 f6 HRC HBX5 HO5
            obtain ⟨la, hla⟩ : ∃ z, z = lastT t := ⟨_, rfl⟩
            have HLL := Lib.hid hla
            rw [← hla] at HLA
            clear hla
            have HBL := Lib.hid (HBX6.out)
            go_wp2_with ((first | refine wpList_load_mid rfl 27 (.tmp 5) rfl w.heap.size 0 rfl (tkA t (.slice A1 n1 c1) (.slice A2 n2 c2) (.slice A3 n3 c3)).toList _ (blk_range (HBL.out)) Try.underlying27 rfl infoTk ?_ | refine wpList_load_want (by rfl) 27 (.tmp 5) rfl w.heap.size 0 rfl (tkA t (.slice A1 n1 c1) (.slice A2 n2 c2) (.slice A3 n3 c3)).toList _ (blk_range (HBL.out)) Try.underlying27 rfl infoTk ?_))
            clear HBL
            refine (HLA.out _ (HC6.out.1.fr)).mono ?_
            rintro e w7 ⟨rfl, f7⟩
            have HC7 := Lib.hid (And.intro (HC6.out.1.keep0 f7) HC6.out.2)
            have HBX7 := Lib.hid (HBX6.out.keep f7 (fun q => q))
            have HO7 := Lib.hid (And.intro (HO6.out.1.keep0 f7) (And.intro (HO6.out.2.1.keep0 f7) (HO6.out.2.2.keep0 f7)))
            clear f7 HC6 HBX6 HO6
            by_cases g6 : la ≤ d
            · have g6i : ¬ d < la := by omega
              by_cases g7 : d ≤ 1000000
              · have g7i : ¬ 1000000 < d := by omega
                have HG67 := Lib.hid (And.intro g6 g7)
                have hz10 : w7.cell? ⟨w.heap.size, 10, none⟩ = some (.slice A3 n3 c3) := cp_cell HBX7.out 10 rfl
                by_cases g8 : n3 = 60
                · have g8i : ((n3 : Int) == 60) = true := by rw [beq_iff_eq]; omega
                  obtain ⟨rfl, rfl⟩ : E = 8 ∧ R = noTk := by
                    have h9 : chgE t c d s k = 8 := by unfold chgE; rw [if_pos ⟨e0, HE1.out.1, (by rw [← HL.out.1]; exact HE1.out.2), HWT.out⟩, HST.out, if_pos HE5.out, if_pos (by rw [← HLL.out]; exact HG67.out), if_pos (by rw [← HL.out.2.2.1]; exact g8)]
                    exact ⟨HER.out.1.trans h9, HER.out.2.trans (by unfold chgT; rw [h9]; rfl)⟩
                  have HX7 := Lib.hid (fr_cells (F := fun _ => False) (a := w) (b := w.heap.size + 1) (.inr (Nat.le_succ _)) zTk.toList 0 w7 (HC7.out.1.fr))
                  have HX8 := Lib.hid (HC7.out.1.bz)
                  go_wp2_with (refine wpList_store_mid rfl 27 (.tmp 10) (.tmp 64) rfl (w.heap.size + 1) 0 zTk rfl rfl (blk_there HX8.out (Nat.le_refl 11)) (infoTk' noTk _ _ _) (tkA_one noTk none none none 0 0 0 0 0 0) ?_)
                  refine bodyPost_ret (results_tk rfl _ _ (w.heap.size + 1) zTk rfl (blk_row HX8.out rfl) rfl) rfl ?_
                  exact ⟨_, rfl, tk_none _ _, HX7.out⟩
                · have g8i : ((n3 : Int) == 60) = false := by rw [beq_eq_false_iff_ne]; omega
                  have HE0 : Hid (E = 0 ∧ R = { t with cps := t.cps.modify m (fun x => chgCp x s k), his := t.his ++ [⟨d, c, st, s⟩] }) := Lib.hid (by
                    have h9 : chgE t c d s k = 0 := by
                      unfold chgE
                      rw [if_pos ⟨e0, HE1.out.1, (by rw [← HL.out.1]; exact HE1.out.2), HWT.out⟩, HST.out, if_pos HE5.out, if_pos (by rw [← HLL.out]; exact HG67.out), if_neg (by rw [← HL.out.2.2.1]; exact g8)]
                    exact ⟨HER.out.1.trans h9, HER.out.2.trans (by unfold chgT; rw [if_pos h9, HM.out.2.2, HST.out.symm, HM.out.2.2])⟩)
                  clear g8 g6 g7 e0
                  obtain ⟨rfl, hRR⟩ : E = 0 ∧ R = R := ⟨HE0.out.1, rfl⟩
                  clear hRR
                  go_upto_region 11 with fail
                  clear hz10 g6i g7i g8i
                  have hy10 : w7.cell? ⟨g12, 10, none⟩ = some (.slice A6 n6 c6) := cp_cell HC7.out.1.b12 10 rfl
                  have hy13 : w7.cell? ⟨g13, 3, none⟩ = some (.int .i64 st) := cp_cell HC7.out.1.b13 3 rfl
                  have fa : Fr (fun _ => False) w7 (w7.alloc (.cells #[.int .i64 d, .int .i64 c, .int .i64 st, .int .i64 s] 51)) := (Fr.refl _ w7).alloc _
                  have HE11 : Hid (RwO (w7.alloc (.cells #[.int .i64 d, .int .i64 c, .int .i64 st, .int .i64 s] 51)) B7 51 4 evC (.slice A6 n6 c6) t.his ∧ Blk (w7.alloc (.cells #[.int .i64 d, .int .i64 c, .int .i64 st, .int .i64 s] 51)) w7.heap.size 51 (evC ⟨d, c, st, s⟩).toArray ∧ t.his.length ≤ 100000 ∧ B7 ≤ (w7.alloc (.cells #[.int .i64 d, .int .i64 c, .int .i64 st, .int .i64 s] 51)).heap.size) := Lib.hid ⟨HO7.out.2.2.keep0 fa, Blk.new w7 _ _, by have := HL.out.2.2.2; omega, by have h5 := HC7.out.1.b13.lt; have h6 := fa.size; have h7 := HC7.out.2; have h8 := HG12.out; omega⟩
                  have HC11 := Lib.hid (HC7.out.1.keep0 fa)
                  have HO11 := Lib.hid (And.intro (HO7.out.1.keep0 fa) (HO7.out.2.1.keep0 fa))
                  have HGG : Hid (w.heap.size + 1 < B7 ∧ B7 ≤ g4 ∧ g4 < g12 ∧ g12 < g13) := Lib.hid ⟨HGB.out.1, HGB.out.2, HG12.out.1, HC7.out.2⟩
                  clear fa
                  go_upto_region 12 with (at_builtin; refine wpList_append_ev rfl (.tmp 66) (.tmp 73) rfl rfl HE11.out.1 rfl HE11.out.2.1 HE11.out.2.2.1 HE11.out.2.2.2 ?_; intro v12 w12 ho12 f12; obtain ⟨A7, n7, c7, ev7⟩ : ∃ A n c, v12 = .slice A n c := (by obtain ⟨A, c, e, _⟩ := own_slice ho12; exact ⟨A, _, c, e⟩); subst ev7; have HC12 := Lib.hid (HC11.out.keepF f12 (fun b q => by have h6 := HE11.out.1.low q; have h7 := HE11.out.1.type q; have h8 := HGG.out; refine ⟨by omega, fun e => ?_, fun e => ?_, by omega⟩ <;> (subst e; obtain ⟨_, k1⟩ := h7; first | exact absurd (blk_apart k1 HC11.out.b12) (by decide) | exact absurd (blk_apart k1 HC11.out.b13) (by decide)))); have HO12 := Lib.hid (And.intro (HO11.out.1.keepT HE11.out.1 (by decide) f12) (And.intro (HO11.out.2.keepT HE11.out.1 (by decide) f12) ho12)); clear ho12 f12 hy10; have hq12 := cp_cell HC12.out.b12 10 rfl; have hf12 := HC12.out.b12.frozen 10)
                  clear hy13 hq12 hf12
                  obtain ⟨W13, hW13⟩ : ∃ W, W = w12.setCell ⟨g12, 10, none⟩ (.slice A7 n7 c7) := ⟨_, rfl⟩
                  have hs12 := HC12.out.set12 10 (.slice A7 n7 c7) (by have := HGG.out; omega) (by have := HGG.out; omega) (by have := HGG.out; omega)
                  rw [← hW13] at hs12
                  have HC13 : Hid (RcW w W13 (w.heap.size + 1) g12 g13 (tkA t (.slice (some ⟨g4, 0, none⟩) n4 c4) (.slice A5 n5 c5) (.slice A7 n7 c7)) zTk #[.int .i64 fl, .int .i64 dy, .int .i64 va, .int .i64 st, .int .i64 ho, .int .u64 (nx : Nat)]) := Lib.hid hs12.1
                  have HO13 : Hid (RwO W13 B7 49 6 cpC (.slice (some ⟨g4, 0, none⟩) n4 c4) t.cps ∧ RwO W13 B7 62 2 txC (.slice A5 n5 c5) t.txs ∧ RwO W13 B7 51 4 evC (.slice A7 n7 c7) (t.his ++ [⟨d, c, st, s⟩])) := Lib.hid ⟨rwo_off HO12.out.1 hs12.2 HC12.out.b12 (by decide), rwo_off HO12.out.2.1 hs12.2 HC12.out.b12 (by decide), rwo_off HO12.out.2.2 hs12.2 HC12.out.b12 (by decide)⟩
                  have hc0 := HC13.out.set13 3 (.int .i64 s) (by have := HGG.out; omega) (by have := HGG.out; omega) (by have := HGG.out; omega)
                  have hc1 := hc0.1.set13 4 (.int .i64 0) (by have := HGG.out; omega) (by have := HGG.out; omega) (by have := HGG.out; omega)
                  have hc2 := hc1.1.set13 5 (.int .u64 0) (by have := HGG.out; omega) (by have := HGG.out; omega) (by have := HGG.out; omega)
                  have hk0 := cp_cell HC13.out.b13 3 rfl
                  have hk1 := cp_cell hc0.1.b13 4 rfl
                  have hk2 := cp_cell hc1.1.b13 5 rfl
                  have hl0 := HC13.out.b13.frozen 3
                  have hl1 := hc0.1.b13.frozen 4
                  have hl2 := hc1.1.b13.frozen 5
                  obtain ⟨W16, hW16⟩ : ∃ W, W = (((W13.setCell ⟨g13, 3, none⟩ (.int .i64 s)).setCell ⟨g13, 4, none⟩ (.int .i64 0)).setCell ⟨g13, 5, none⟩ (.int .u64 0)) := ⟨_, rfl⟩
                  have HF16 : Hid (Fr (fun b => b = g13) W13 W16) := Lib.hid (by rw [hW16]; exact (hc0.2.trans hc1.2 (fun _ _ q => q)).trans hc2.2 (fun _ _ q => q))
                  have HC16 : Hid (RcW w W16 (w.heap.size + 1) g12 g13 (tkA t (.slice (some ⟨g4, 0, none⟩) n4 c4) (.slice A5 n5 c5) (.slice A7 n7 c7)) zTk #[.int .i64 fl, .int .i64 dy, .int .i64 va, .int .i64 s, .int .i64 0, .int .u64 0]) := Lib.hid (by rw [hW16]; exact hc2.1)
                  have HO16 := Lib.hid (And.intro (rwo_cp HO13.out.1 HF16.out (by have := HGG.out; omega)) (And.intro (rwo_off HO13.out.2.1 HF16.out HC13.out.b13 (by decide)) (rwo_off HO13.out.2.2 HF16.out HC13.out.b13 (by decide))))
                  rw [← hW13]
                  have HQ16 := Lib.hid hW16
                  clear hc0 hc1 hc2 hs12 hW13 hW16 HC12 HO12 HO11 HC11 HE11 HO7 HC7 HBX7
                  go_upto_region 15 with fail
                  rw [← HQ16.out]
                  clear HQ16 hk0 hk1 hk2 hl0 hl1 hl2 HC13 HO13
                  by_cases h9 : s = 9
                  · have b9 : (s == 9) = true := by rw [beq_iff_eq]; exact h9
                    have b5 : (s == 5) = false := by rw [beq_eq_false_iff_ne]; omega
                    have hk9 : k ≤ 1000 := by have h6 := HWT.out; unfold withB at h6; rw [if_pos h9, decide_eq_true_eq] at h6; omega
                    have hkw : wrap64 (k : Int) = (k : Int) := wrap64_in (by omega) (by omega)
                    have hkw2 : IntKind.i64.wrap (k : Int) = (k : Int) := wrapI2 (by omega) (by omega)
                    have HCC : Hid (chgCp ⟨fl, dy, va, st, ho, nx⟩ s k = ⟨fl, dy, va, s, ((k : Nat) : Int), 0⟩) := Lib.hid (by unfold chgCp; simp [h9])
                    clear h9 hk9
                    have hk0 := cp_cell HC16.out.b13 4 rfl
                    have hl0 := HC16.out.b13.frozen 4
                    have hc0 := HC16.out.set13 4 (.int .i64 ((k : Nat) : Int)) (by have := HGG.out; omega) (by have := HGG.out; omega) (by have := HGG.out; omega)
                    obtain ⟨W17, hW17⟩ : ∃ W, W = W16.setCell ⟨g13, 4, none⟩ (.int .i64 ((k : Nat) : Int)) := ⟨_, rfl⟩
                    have HC17 : Hid (RcW w W17 (w.heap.size + 1) g12 g13 (tkA t (.slice (some ⟨g4, 0, none⟩) n4 c4) (.slice A5 n5 c5) (.slice A7 n7 c7)) zTk #[.int .i64 fl, .int .i64 dy, .int .i64 va, .int .i64 s, .int .i64 ((k : Nat) : Int), .int .u64 0]) := Lib.hid (by rw [hW17]; exact hc0.1)
                    have HF17 : Hid (Fr (fun b => b = g13) W16 W17) := Lib.hid (by rw [hW17]; exact hc0.2)
                    have HO17 := Lib.hid (And.intro (rwo_cp HO16.out.1 HF17.out (by have := HGG.out; omega)) (And.intro (rwo_off HO16.out.2.1 HF17.out HC16.out.b13 (by decide)) (rwo_off HO16.out.2.2 HF17.out HC16.out.b13 (by decide))))
                    have HQ17 := Lib.hid hW17
                    clear hc0 hW17
                    go_upto_region 19 with fail
                    rw [← HQ17.out]
                    clear HQ17 hk0 hl0 HC16 HO16 HF17
                    have hz3 : W17.cell? ⟨g12, 3, none⟩ = some (.slice (some ⟨g4, 0, none⟩) n4 c4) := cp_cell HC17.out.b12 3 rfl
                    have hset := RwO.set HO17.out.1 cpC_len (m := m) ⟨fl, dy, va, s, ((k : Nat) : Int), 0⟩ (by rw [← HL.out.1]; exact HM.out.2.1)
                    have HTH := Lib.hid hset.1
                    obtain ⟨W18, hW18⟩ : ∃ W, W = W17.setCells g4 (m * 6) (cpC ⟨fl, dy, va, s, ((k : Nat) : Int), 0⟩) := ⟨_, rfl⟩
                    have hfx := fr_cells (F := fun b => b = g4) (a := W17) (b := g4) (.inl rfl) (cpC ⟨fl, dy, va, s, ((k : Nat) : Int), 0⟩) (m * 6) W17 (Fr.refl _ _)
                    obtain ⟨c9, hc9⟩ := HO17.out.1.type (b := g4) rfl
                    have HO18 : Hid (RwO W18 B7 49 6 cpC (.slice (some ⟨g4, 0, none⟩) n4 c4) (t.cps.set m ⟨fl, dy, va, s, ((k : Nat) : Int), 0⟩) ∧ RwO W18 B7 62 2 txC (.slice A5 n5 c5) t.txs ∧ RwO W18 B7 51 4 evC (.slice A7 n7 c7) (t.his ++ [⟨d, c, st, s⟩])) := Lib.hid (by
                      rw [hW18]
                      exact ⟨hset.2, rwo_off HO17.out.2.1 hfx hc9 (by decide), rwo_off HO17.out.2.2 hfx hc9 (by decide)⟩)
                    have HC18 : Hid (RcW w W18 (w.heap.size + 1) g12 g13 (tkA t (.slice (some ⟨g4, 0, none⟩) n4 c4) (.slice A5 n5 c5) (.slice A7 n7 c7)) zTk #[.int .i64 fl, .int .i64 dy, .int .i64 va, .int .i64 s, .int .i64 ((k : Nat) : Int), .int .u64 0]) := Lib.hid (by rw [hW18]; exact HC17.out.keepF hfx (fun b q => by have h6 : b = g4 := q; have := HGG.out; omega))
                    have HQ18 := Lib.hid hW18
                    clear hset hW18 hfx hc9
                    go_upto_region 20 with (first
                      | (refine wpList_load_mid rfl 49 (.tmp 13) rfl g13 0 rfl (#[.int .i64 fl, .int .i64 dy, .int .i64 va, .int .i64 s, .int .i64 ((k : Nat) : Int), .int .u64 0]).toList _ (blk_range HC17.out.b13) Try.underlying49 rfl (info_size infoCp) ?_)
                      | (refine wpList_store_mid rfl 49 (.tmp 94) (.tmp 93) rfl g4 (m * 6) (cpC ⟨fl, dy, va, s, ((k : Nat) : Int), 0⟩).toArray rfl rfl HTH.out (info_size infoCp) (by simp [Value.oneCell']) ?_))
                    rw [← HQ18.out]
                    clear HQ18 hz3 HC17 HO17 HTH
                    have HX14 := Lib.hid (fr_cells (F := fun _ => False) (a := w) (b := w.heap.size + 1) (.inr (Nat.le_succ _)) (tkA t (.slice (some ⟨g4, 0, none⟩) n4 c4) (.slice A5 n5 c5) (.slice A7 n7 c7)).toList 0 W18 HC18.out.fr)
                    have HX15 := Lib.hid (fr_cells (F := fun b => b = w.heap.size + 1) (a := W18) (b := w.heap.size + 1) (.inl rfl) (tkA t (.slice (some ⟨g4, 0, none⟩) n4 c4) (.slice A5 n5 c5) (.slice A7 n7 c7)).toList 0 W18 (Fr.refl _ _))
                    go_wp2_with (first
                      | (refine wpList_load_mid rfl 27 (.tmp 12) rfl g12 0 rfl (tkA t (.slice (some ⟨g4, 0, none⟩) n4 c4) (.slice A5 n5 c5) (.slice A7 n7 c7)).toList _ (blk_range HC18.out.b12) Try.underlying27 rfl infoTk ?_)
                      | (refine wpList_store_mid rfl 27 (.tmp 10) (.tmp 95) rfl (w.heap.size + 1) 0 (tkA t (.slice (some ⟨g4, 0, none⟩) n4 c4) (.slice A5 n5 c5) (.slice A7 n7 c7)) rfl rfl (blk_there HC18.out.bz (Nat.le_refl 11)) (infoTk' _ _ _ _) (tkA_one _ _ _ _ _ _ _ _ _ _) ?_))
                    refine bodyPost_ret (results_tk rfl _ _ (w.heap.size + 1) (tkA t (.slice (some ⟨g4, 0, none⟩) n4 c4) (.slice A5 n5 c5) (.slice A7 n7 c7)) rfl (blk_row HC18.out.bz rfl) rfl) rfl ?_
                    have hb1 : ∀ b, (b = w.heap.size + 1) → b < B7 := fun b q => by have := HGG.out; omega
                    have hcps : t.cps.set m ⟨fl, dy, va, s, ((k : Nat) : Int), 0⟩ = t.cps.modify m (fun x => chgCp x s k) := by
                      rw [← HCC.out]
                      exact set_modify (fun x => chgCp x s k) HX.out
                    refine ⟨_, rfl, ?_, HX14.out⟩
                    rw [HE0.out.2]
                    refine ⟨_, _, _, rfl, ?_, ?_, ?_⟩
                    · have h5 := (HO18.out.1.keepB HX15.out hb1).base (B' := w.heap.size) (by have := HGG.out; omega)
                      rw [hcps] at h5
                      exact h5
                    · exact (HO18.out.2.1.keepB HX15.out hb1).base (B' := w.heap.size) (by have := HGG.out; omega)
                    · exact (HO18.out.2.2.keepB HX15.out hb1).base (B' := w.heap.size) (by have := HGG.out; omega)
                  · by_cases h5 : s = 5
                    · have b5 : (s == 5) = true := by rw [beq_iff_eq]; exact h5
                      have b9 : (s == 9) = false := by rw [beq_eq_false_iff_ne]; exact h9
                      have HCC : Hid (chgCp ⟨fl, dy, va, st, ho, nx⟩ s k = ⟨fl, dy, va, s, 0, (k : Nat)⟩) := Lib.hid (by unfold chgCp; simp [h5])
                      clear h5 h9
                      have hk0 := cp_cell HC16.out.b13 5 rfl
                      have hl0 := HC16.out.b13.frozen 5
                      have hc0 := HC16.out.set13 5 (.int .u64 (k : Nat)) (by have := HGG.out; omega) (by have := HGG.out; omega) (by have := HGG.out; omega)
                      obtain ⟨W17, hW17⟩ : ∃ W, W = W16.setCell ⟨g13, 5, none⟩ (.int .u64 (k : Nat)) := ⟨_, rfl⟩
                      have HC17 : Hid (RcW w W17 (w.heap.size + 1) g12 g13 (tkA t (.slice (some ⟨g4, 0, none⟩) n4 c4) (.slice A5 n5 c5) (.slice A7 n7 c7)) zTk #[.int .i64 fl, .int .i64 dy, .int .i64 va, .int .i64 s, .int .i64 0, .int .u64 (k : Nat)]) := Lib.hid (by rw [hW17]; exact hc0.1)
                      have HF17 : Hid (Fr (fun b => b = g13) W16 W17) := Lib.hid (by rw [hW17]; exact hc0.2)
                      have HO17 := Lib.hid (And.intro (rwo_cp HO16.out.1 HF17.out (by have := HGG.out; omega)) (And.intro (rwo_off HO16.out.2.1 HF17.out HC16.out.b13 (by decide)) (rwo_off HO16.out.2.2 HF17.out HC16.out.b13 (by decide))))
                      have HQ17 := Lib.hid hW17
                      clear hc0 hW17
                      go_upto_region 19 with fail
                      rw [← HQ17.out]
                      clear HQ17 hk0 hl0 HC16 HO16 HF17
                      have hz3 : W17.cell? ⟨g12, 3, none⟩ = some (.slice (some ⟨g4, 0, none⟩) n4 c4) := cp_cell HC17.out.b12 3 rfl
                      have hset := RwO.set HO17.out.1 cpC_len (m := m) ⟨fl, dy, va, s, 0, (k : Nat)⟩ (by rw [← HL.out.1]; exact HM.out.2.1)
                      have HTH := Lib.hid hset.1
                      obtain ⟨W18, hW18⟩ : ∃ W, W = W17.setCells g4 (m * 6) (cpC ⟨fl, dy, va, s, 0, (k : Nat)⟩) := ⟨_, rfl⟩
                      have hfx := fr_cells (F := fun b => b = g4) (a := W17) (b := g4) (.inl rfl) (cpC ⟨fl, dy, va, s, 0, (k : Nat)⟩) (m * 6) W17 (Fr.refl _ _)
                      obtain ⟨c9, hc9⟩ := HO17.out.1.type (b := g4) rfl
                      have HO18 : Hid (RwO W18 B7 49 6 cpC (.slice (some ⟨g4, 0, none⟩) n4 c4) (t.cps.set m ⟨fl, dy, va, s, 0, (k : Nat)⟩) ∧ RwO W18 B7 62 2 txC (.slice A5 n5 c5) t.txs ∧ RwO W18 B7 51 4 evC (.slice A7 n7 c7) (t.his ++ [⟨d, c, st, s⟩])) := Lib.hid (by
                        rw [hW18]
                        exact ⟨hset.2, rwo_off HO17.out.2.1 hfx hc9 (by decide), rwo_off HO17.out.2.2 hfx hc9 (by decide)⟩)
                      have HC18 : Hid (RcW w W18 (w.heap.size + 1) g12 g13 (tkA t (.slice (some ⟨g4, 0, none⟩) n4 c4) (.slice A5 n5 c5) (.slice A7 n7 c7)) zTk #[.int .i64 fl, .int .i64 dy, .int .i64 va, .int .i64 s, .int .i64 0, .int .u64 (k : Nat)]) := Lib.hid (by rw [hW18]; exact HC17.out.keepF hfx (fun b q => by have h6 : b = g4 := q; have := HGG.out; omega))
                      have HQ18 := Lib.hid hW18
                      clear hset hW18 hfx hc9
                      go_upto_region 20 with (first
                        | (refine wpList_load_mid rfl 49 (.tmp 13) rfl g13 0 rfl (#[.int .i64 fl, .int .i64 dy, .int .i64 va, .int .i64 s, .int .i64 0, .int .u64 (k : Nat)]).toList _ (blk_range HC17.out.b13) Try.underlying49 rfl (info_size infoCp) ?_)
                        | (refine wpList_store_mid rfl 49 (.tmp 94) (.tmp 93) rfl g4 (m * 6) (cpC ⟨fl, dy, va, s, 0, (k : Nat)⟩).toArray rfl rfl HTH.out (info_size infoCp) (by simp [Value.oneCell']) ?_))
                      rw [← HQ18.out]
                      clear HQ18 hz3 HC17 HO17 HTH
                      have HX14 := Lib.hid (fr_cells (F := fun _ => False) (a := w) (b := w.heap.size + 1) (.inr (Nat.le_succ _)) (tkA t (.slice (some ⟨g4, 0, none⟩) n4 c4) (.slice A5 n5 c5) (.slice A7 n7 c7)).toList 0 W18 HC18.out.fr)
                      have HX15 := Lib.hid (fr_cells (F := fun b => b = w.heap.size + 1) (a := W18) (b := w.heap.size + 1) (.inl rfl) (tkA t (.slice (some ⟨g4, 0, none⟩) n4 c4) (.slice A5 n5 c5) (.slice A7 n7 c7)).toList 0 W18 (Fr.refl _ _))
                      go_wp2_with (first
                        | (refine wpList_load_mid rfl 27 (.tmp 12) rfl g12 0 rfl (tkA t (.slice (some ⟨g4, 0, none⟩) n4 c4) (.slice A5 n5 c5) (.slice A7 n7 c7)).toList _ (blk_range HC18.out.b12) Try.underlying27 rfl infoTk ?_)
                        | (refine wpList_store_mid rfl 27 (.tmp 10) (.tmp 95) rfl (w.heap.size + 1) 0 (tkA t (.slice (some ⟨g4, 0, none⟩) n4 c4) (.slice A5 n5 c5) (.slice A7 n7 c7)) rfl rfl (blk_there HC18.out.bz (Nat.le_refl 11)) (infoTk' _ _ _ _) (tkA_one _ _ _ _ _ _ _ _ _ _) ?_))
                      refine bodyPost_ret (results_tk rfl _ _ (w.heap.size + 1) (tkA t (.slice (some ⟨g4, 0, none⟩) n4 c4) (.slice A5 n5 c5) (.slice A7 n7 c7)) rfl (blk_row HC18.out.bz rfl) rfl) rfl ?_
                      have hb1 : ∀ b, (b = w.heap.size + 1) → b < B7 := fun b q => by have := HGG.out; omega
                      have hcps : t.cps.set m ⟨fl, dy, va, s, 0, (k : Nat)⟩ = t.cps.modify m (fun x => chgCp x s k) := by
                        rw [← HCC.out]
                        exact set_modify (fun x => chgCp x s k) HX.out
                      refine ⟨_, rfl, ?_, HX14.out⟩
                      rw [HE0.out.2]
                      refine ⟨_, _, _, rfl, ?_, ?_, ?_⟩
                      · have h5 := (HO18.out.1.keepB HX15.out hb1).base (B' := w.heap.size) (by have := HGG.out; omega)
                        rw [hcps] at h5
                        exact h5
                      · exact (HO18.out.2.1.keepB HX15.out hb1).base (B' := w.heap.size) (by have := HGG.out; omega)
                      · exact (HO18.out.2.2.keepB HX15.out hb1).base (B' := w.heap.size) (by have := HGG.out; omega)
                    · have b9 : (s == 9) = false := by rw [beq_eq_false_iff_ne]; exact h9
                      have b5 : (s == 5) = false := by rw [beq_eq_false_iff_ne]; exact h5
                      have HCC : Hid (chgCp ⟨fl, dy, va, st, ho, nx⟩ s k = ⟨fl, dy, va, s, 0, 0⟩) := Lib.hid (by unfold chgCp; simp [h9, h5])
                      clear h9 h5
                      go_upto_region 19 with fail
                      have hz3 : W16.cell? ⟨g12, 3, none⟩ = some (.slice (some ⟨g4, 0, none⟩) n4 c4) := cp_cell HC16.out.b12 3 rfl
                      have hset := RwO.set HO16.out.1 cpC_len (m := m) ⟨fl, dy, va, s, 0, 0⟩ (by rw [← HL.out.1]; exact HM.out.2.1)
                      have HTH := Lib.hid hset.1
                      obtain ⟨W18, hW18⟩ : ∃ W, W = W16.setCells g4 (m * 6) (cpC ⟨fl, dy, va, s, 0, 0⟩) := ⟨_, rfl⟩
                      have hfx := fr_cells (F := fun b => b = g4) (a := W16) (b := g4) (.inl rfl) (cpC ⟨fl, dy, va, s, 0, 0⟩) (m * 6) W16 (Fr.refl _ _)
                      obtain ⟨c9, hc9⟩ := HO16.out.1.type (b := g4) rfl
                      have HO18 : Hid (RwO W18 B7 49 6 cpC (.slice (some ⟨g4, 0, none⟩) n4 c4) (t.cps.set m ⟨fl, dy, va, s, 0, 0⟩) ∧ RwO W18 B7 62 2 txC (.slice A5 n5 c5) t.txs ∧ RwO W18 B7 51 4 evC (.slice A7 n7 c7) (t.his ++ [⟨d, c, st, s⟩])) := Lib.hid (by
                        rw [hW18]
                        exact ⟨hset.2, rwo_off HO16.out.2.1 hfx hc9 (by decide), rwo_off HO16.out.2.2 hfx hc9 (by decide)⟩)
                      have HC18 : Hid (RcW w W18 (w.heap.size + 1) g12 g13 (tkA t (.slice (some ⟨g4, 0, none⟩) n4 c4) (.slice A5 n5 c5) (.slice A7 n7 c7)) zTk #[.int .i64 fl, .int .i64 dy, .int .i64 va, .int .i64 s, .int .i64 0, .int .u64 0]) := Lib.hid (by rw [hW18]; exact HC16.out.keepF hfx (fun b q => by have h6 : b = g4 := q; have := HGG.out; omega))
                      have HQ18 := Lib.hid hW18
                      clear hset hW18 hfx hc9
                      go_upto_region 20 with (first
                        | (refine wpList_load_mid rfl 49 (.tmp 13) rfl g13 0 rfl (#[.int .i64 fl, .int .i64 dy, .int .i64 va, .int .i64 s, .int .i64 0, .int .u64 0]).toList _ (blk_range HC16.out.b13) Try.underlying49 rfl (info_size infoCp) ?_)
                        | (refine wpList_store_mid rfl 49 (.tmp 94) (.tmp 93) rfl g4 (m * 6) (cpC ⟨fl, dy, va, s, 0, 0⟩).toArray rfl rfl HTH.out (info_size infoCp) (by simp [Value.oneCell']) ?_))
                      rw [← HQ18.out]
                      clear HQ18 hz3 HC16 HO16 HTH
                      have HX14 := Lib.hid (fr_cells (F := fun _ => False) (a := w) (b := w.heap.size + 1) (.inr (Nat.le_succ _)) (tkA t (.slice (some ⟨g4, 0, none⟩) n4 c4) (.slice A5 n5 c5) (.slice A7 n7 c7)).toList 0 W18 HC18.out.fr)
                      have HX15 := Lib.hid (fr_cells (F := fun b => b = w.heap.size + 1) (a := W18) (b := w.heap.size + 1) (.inl rfl) (tkA t (.slice (some ⟨g4, 0, none⟩) n4 c4) (.slice A5 n5 c5) (.slice A7 n7 c7)).toList 0 W18 (Fr.refl _ _))
                      go_wp2_with (first
                        | (refine wpList_load_mid rfl 27 (.tmp 12) rfl g12 0 rfl (tkA t (.slice (some ⟨g4, 0, none⟩) n4 c4) (.slice A5 n5 c5) (.slice A7 n7 c7)).toList _ (blk_range HC18.out.b12) Try.underlying27 rfl infoTk ?_)
                        | (refine wpList_store_mid rfl 27 (.tmp 10) (.tmp 95) rfl (w.heap.size + 1) 0 (tkA t (.slice (some ⟨g4, 0, none⟩) n4 c4) (.slice A5 n5 c5) (.slice A7 n7 c7)) rfl rfl (blk_there HC18.out.bz (Nat.le_refl 11)) (infoTk' _ _ _ _) (tkA_one _ _ _ _ _ _ _ _ _ _) ?_))
                      refine bodyPost_ret (results_tk rfl _ _ (w.heap.size + 1) (tkA t (.slice (some ⟨g4, 0, none⟩) n4 c4) (.slice A5 n5 c5) (.slice A7 n7 c7)) rfl (blk_row HC18.out.bz rfl) rfl) rfl ?_
                      have hb1 : ∀ b, (b = w.heap.size + 1) → b < B7 := fun b q => by have := HGG.out; omega
                      have hcps : t.cps.set m ⟨fl, dy, va, s, 0, 0⟩ = t.cps.modify m (fun x => chgCp x s k) := by
                        rw [← HCC.out]
                        exact set_modify (fun x => chgCp x s k) HX.out
                      refine ⟨_, rfl, ?_, HX14.out⟩
                      rw [HE0.out.2]
                      refine ⟨_, _, _, rfl, ?_, ?_, ?_⟩
                      · have h5 := (HO18.out.1.keepB HX15.out hb1).base (B' := w.heap.size) (by have := HGG.out; omega)
                        rw [hcps] at h5
                        exact h5
                      · exact (HO18.out.2.1.keepB HX15.out hb1).base (B' := w.heap.size) (by have := HGG.out; omega)
                      · exact (HO18.out.2.2.keepB HX15.out hb1).base (B' := w.heap.size) (by have := HGG.out; omega)
              · have g7i : 1000000 < d := by omega
                obtain ⟨rfl, rfl⟩ : E = 15 ∧ R = noTk := by
                  have h9 : chgE t c d s k = 15 := by unfold chgE; rw [if_pos ⟨e0, HE1.out.1, (by rw [← HL.out.1]; exact HE1.out.2), HWT.out⟩, HST.out, if_pos HE5.out, if_neg (fun q => g7 q.2)]
                  exact ⟨HER.out.1.trans h9, HER.out.2.trans (by unfold chgT; rw [h9]; rfl)⟩
                have HX7 := Lib.hid (fr_cells (F := fun _ => False) (a := w) (b := w.heap.size + 1) (.inr (Nat.le_succ _)) zTk.toList 0 w7 (HC7.out.1.fr))
                have HX8 := Lib.hid (HC7.out.1.bz)
                go_wp2_with (refine wpList_store_mid rfl 27 (.tmp 10) (.tmp 59) rfl (w.heap.size + 1) 0 zTk rfl rfl (blk_there HX8.out (Nat.le_refl 11)) (infoTk' noTk _ _ _) (tkA_one noTk none none none 0 0 0 0 0 0) ?_)
                refine bodyPost_ret (results_tk rfl _ _ (w.heap.size + 1) zTk rfl (blk_row HX8.out rfl) rfl) rfl ?_
                exact ⟨_, rfl, tk_none _ _, HX7.out⟩
            · have g6i : d < la := by omega
              obtain ⟨rfl, rfl⟩ : E = 15 ∧ R = noTk := by
                have h9 : chgE t c d s k = 15 := by unfold chgE; rw [if_pos ⟨e0, HE1.out.1, (by rw [← HL.out.1]; exact HE1.out.2), HWT.out⟩, HST.out, if_pos HE5.out, if_neg (fun q => g6 (by rw [HLL.out]; exact q.1))]
                exact ⟨HER.out.1.trans h9, HER.out.2.trans (by unfold chgT; rw [h9]; rfl)⟩
              have HX7 := Lib.hid (fr_cells (F := fun _ => False) (a := w) (b := w.heap.size + 1) (.inr (Nat.le_succ _)) zTk.toList 0 w7 (HC7.out.1.fr))
              have HX8 := Lib.hid (HC7.out.1.bz)
              go_wp2_with (refine wpList_store_mid rfl 27 (.tmp 10) (.tmp 59) rfl (w.heap.size + 1) 0 zTk rfl rfl (blk_there HX8.out (Nat.le_refl 11)) (infoTk' noTk _ _ _) (tkA_one noTk none none none 0 0 0 0 0 0) ?_)
              refine bodyPost_ret (results_tk rfl _ _ (w.heap.size + 1) zTk rfl (blk_row HX8.out rfl) rfl) rfl ?_
              exact ⟨_, rfl, tk_none _ _, HX7.out⟩
      · have g2i : (n1 : Int) < c := by omega
        obtain ⟨rfl, rfl⟩ : E = 2 ∧ R = noTk := by
          have h9 : chgE t c d s k = 2 := by unfold chgE; rw [if_neg (fun q => g2 (by rw [HL.out.1]; exact q.2.2.1))]
          exact ⟨HER.out.1.trans h9, HER.out.2.trans (by unfold chgT; rw [h9]; rfl)⟩
        have HX7 := Lib.hid (fr_cells (F := fun _ => False) (a := w) (b := w.heap.size + 1) (.inr (Nat.le_succ _)) zTk.toList 0 w1 (HF1.out))
        have HX8 := Lib.hid (HZ.out)
        go_wp2_with (refine wpList_store_mid rfl 27 (.tmp 10) (.tmp 36) rfl (w.heap.size + 1) 0 zTk rfl rfl (blk_there HX8.out (Nat.le_refl 11)) (infoTk' noTk _ _ _) (tkA_one noTk none none none 0 0 0 0 0 0) ?_)
        refine bodyPost_ret (results_tk rfl _ _ (w.heap.size + 1) zTk rfl (blk_row HX8.out rfl) rfl) rfl ?_
        exact ⟨_, rfl, tk_none _ _, HX7.out⟩
    · have g1i : c < 1 := by omega
      obtain ⟨rfl, rfl⟩ : E = 2 ∧ R = noTk := by
        have h9 : chgE t c d s k = 2 := by unfold chgE; rw [if_neg (fun q => g1 q.2.1)]
        exact ⟨HER.out.1.trans h9, HER.out.2.trans (by unfold chgT; rw [h9]; rfl)⟩
      have HX7 := Lib.hid (fr_cells (F := fun _ => False) (a := w) (b := w.heap.size + 1) (.inr (Nat.le_succ _)) zTk.toList 0 w1 (HF1.out))
      have HX8 := Lib.hid (HZ.out)
      go_wp2_with (refine wpList_store_mid rfl 27 (.tmp 10) (.tmp 36) rfl (w.heap.size + 1) 0 zTk rfl rfl (blk_there HX8.out (Nat.le_refl 11)) (infoTk' noTk _ _ _) (tkA_one noTk none none none 0 0 0 0 0 0) ?_)
      refine bodyPost_ret (results_tk rfl _ _ (w.heap.size + 1) zTk rfl (blk_row HX8.out rfl) rfl) rfl ?_
      exact ⟨_, rfl, tk_none _ _, HX7.out⟩
end Go.Proofs.Ytmopkfjnjbimnaa
