/- ticket's Change. -/
import Derived.Test.YtmopkfjnjbimnaaKpj
namespace Go.Proofs.Ytmopkfjnjbimnaa
open Go.RowKit

theorem results_tk {fn : Func} {p u : Tmp} (h : fn.results = #[.cell p 27, .tmp u]) (tmps : Array Value) (w : World) (g : Nat) (cs : Array Value) (hp : tmps.getD p undef = .pointer (some ⟨g, 0, none⟩)) (hg : Blk w g 27 cs) (hc : cs.size = 11) :
    (results fn tmps).run Try.prog w = .ok (.tuple #[.agg cs, tmps.getD u undef]) w := by
  have hr := run_loadVar_row (P := Try.prog) w g 27 27 cs (0, 0) _ hg Try.underlying27 rfl (by rw [infoTk, hc])
  rw [results_cell_tmp h, hp]
  simp [asAddr, hr, Result.andThen]
theorem set_modify {α : Type} (f : α → α) : ∀ {l : List α} {m : Nat} {x : α}, l[m]? = some x → l.set m (f x) = l.modify m f
  | [], m, x, h => by simp at h
  | y :: l, 0, x, h => by simp at h; subst h; rfl
  | y :: l, m + 1, x, h => by simp only [List.set_cons_succ, List.modify_succ_cons]; rw [set_modify f (l := l) (by simpa using h)]
abbrev zTk : Array Value := #[.int .u64 0, .string ⟨#[]⟩, .int .i64 0, .slice none 0 0, .slice none 0 0, .int .u64 0, .int .u64 0, .int .u64 0, .int .i64 0, .int .i64 0, .slice none 0 0]
theorem zTk_eq : zTk = tkA noTk (.slice none 0 0) (.slice none 0 0) (.slice none 0 0) := rfl
theorem cp_cells {w : World} {g : Nat} {c : CpD} (h : Blk w g 49 (cpC c).toArray) : w.cell? ⟨g, 3, none⟩ = some (.int .i64 c.st) := cp_cell h 3 rfl
/-- What stands in the box of a ticket, and beside it, when its row of coupons has one put anew and its history one more. -/
structure ChW (w W : World) (gB g12 g13 : Nat) (box z : Array Value) (x C : CpD) : Prop where
  fr : Fr (fun _ => False) w W
  bx : Blk W gB 27 box
  bz : Blk W (gB + 1) 27 z
  b12 : Blk W g12 49 (cpC x).toArray
  b13 : Blk W g13 49 (cpC C).toArray
theorem ChW.keep0 {w W W' : World} {gB g12 g13 : Nat} {box z : Array Value} {x C : CpD} (h : ChW w W gB g12 g13 box z x C) (f : Fr (fun _ => False) W W') : ChW w W' gB g12 g13 box z x C :=
  ⟨h.fr.trans f (fun _ _ q => q), h.bx.keep f (fun q => q), h.bz.keep f (fun q => q), h.b12.keep f (fun q => q), h.b13.keep f (fun q => q)⟩
/-- A store into another block. -/
theorem ChW.keepF {w W W' : World} {gB g12 g13 : Nat} {box z : Array Value} {x C : CpD} {F : Nat → Prop} (h : ChW w W gB g12 g13 box z x C) (f : Fr F W W') (hF : ∀ b, F b → gB + 1 < b ∧ b ≠ g12 ∧ b ≠ g13 ∧ w.heap.size ≤ b) : ChW w W' gB g12 g13 box z x C :=
  ⟨h.fr.trans f (fun b hb q => by have := hF b q; omega), h.bx.keep f (fun q => by have := hF _ q; omega), h.bz.keep f (fun q => by have := hF _ q; omega), h.b12.keep f (fun q => by have := hF _ q; omega), h.b13.keep f (fun q => by have := hF _ q; omega)⟩
/-- A store into the box. -/
theorem ChW.box {w W : World} {gB g12 g13 : Nat} {box box' z : Array Value} {x C : CpD} (h : ChW w W gB g12 g13 box z x C) (hs : box'.size = box.size) (hg : w.heap.size ≤ gB) (h1 : gB ≠ g12) (h2 : gB ≠ g13) {W' : World} (hW : W' = W.setCells gB 0 box'.toList) : ChW w W' gB g12 g13 box' z x C ∧ Fr (fun b => b = gB) W W' := by
  have f := fr_cells (F := fun b => b = gB) (a := W) (b := gB) (.inl rfl) box'.toList 0 W (Fr.refl _ _)
  subst hW
  refine ⟨⟨h.fr.trans f (fun b hb q => by have h6 : b = gB := q; omega), blk_row h.bx hs, h.bz.keep f (fun q => by have h6 : gB + 1 = gB := q; omega), h.b12.keep f (fun q => h1 q.symm), h.b13.keep f (fun q => h2 q.symm)⟩, f⟩
theorem RwO.keepB {α : Type} {w W : World} {B : Nat} {T : TypeId} {k : Nat} {enc : α → List Value} {v : Value} {xs : List α} (h : RwO w B T k enc v xs) {F : Nat → Prop} (f : Fr F w W) (hF : ∀ b, F b → b < B) : RwO W B T k enc v xs :=
  h.keep f (fun b hb q => by have := (h.low hb).1; have := hF b q; omega)
theorem RwO.keepT {α β : Type} {w W : World} {B B' : Nat} {T T' : TypeId} {k k' : Nat} {enc : α → List Value} {enc' : β → List Value} {v v' : Value} {xs : List α} {ys : List β} (h : RwO w B T k enc v xs) (h' : RwO w B' T' k' enc' v' ys) (hT : T ≠ T') (f : Fr (fun b => v'.ownBlock = some b) w W) : RwO W B T k enc v xs :=
  h.keep f (fun b hb q => by
    obtain ⟨_, k1⟩ := h.type hb
    obtain ⟨_, k2⟩ := h'.type q
    exact hT (blk_apart k1 k2))
set_option maxRecDepth 100000 in
set_option maxHeartbeats 8000000 in
theorem pchange_any {w : World} {v : Value} {t : TkD} (hv : TkV w v t) (hok : TkOk t) (hm : muchT t = false) (c d s : Int) (hs : i64B s) (k : Nat) (hk : u64B k) :
    Calls Try.prog 17 #[v, .int .i64 c, .int .i64 d, .int .i64 s, .int .u64 (k : Nat)] w fun e w' => ∃ v', e = .returned (.tuple #[v', .int .i64 (chgE t c d s k : Nat)]) ∧ TkO w' w.heap.size v' (chgT t c d s k) ∧ Fr (fun _ => False) w w' := by
  have hsm : t.cps.length ≤ 20 ∧ t.txs.length ≤ 20 ∧ t.his.length ≤ 100 ∧ t.loc.size ≤ 100 := by
    unfold muchT at hm
    simp only [Bool.or_eq_false_iff, decide_eq_false_iff_not] at hm
    omega
  have HV := Lib.hid hv
  obtain ⟨sc, sx, se, rfl, a1, a2, a3⟩ := hv
  have HT := Lib.hid hok
  obtain ⟨E, hE⟩ : ∃ E, E = chgE t c d s k := ⟨_, rfl⟩
  obtain ⟨R, hR⟩ : ∃ R, R = chgT t c d s k := ⟨_, rfl⟩
  rw [← hE, ← hR]
  have HER := Lib.hid (And.intro hE hR)
  have HA := Lib.hid (And.intro a1 (And.intro a2 a3))
  obtain ⟨A1, n1, c1, e1, l1⟩ : ∃ A n c, sc = .slice A n c ∧ n = t.cps.length := by obtain ⟨A, c, e, _⟩ := a1.slice; exact ⟨A, _, c, e, rfl⟩
  obtain ⟨A2, n2, c2, e2, l2⟩ : ∃ A n c, sx = .slice A n c ∧ n = t.txs.length := by obtain ⟨A, c, e, _⟩ := a2.slice; exact ⟨A, _, c, e, rfl⟩
  obtain ⟨A3, n3, c3, e3, l3⟩ : ∃ A n c, se = .slice A n c ∧ n = t.his.length := by obtain ⟨A, c, e, _⟩ := a3.slice; exact ⟨A, _, c, e, rfl⟩
  subst e1 e2 e3
  have HL := Lib.hid (And.intro l1 (And.intro l2 (And.intro l3 hsm)))
  obtain ⟨W0, hW0⟩ : ∃ W0, W0 = (w.alloc (.cells (tkA t (.slice A1 n1 c1) (.slice A2 n2 c2) (.slice A3 n3 c3)) 27)).alloc (.cells #[.int .u64 0, .string ⟨#[]⟩, .int .i64 0, .slice none 0 0, .slice none 0 0, .int .u64 0, .int .u64 0, .int .u64 0, .int .i64 0, .int .i64 0, .slice none 0 0] 27) := ⟨_, rfl⟩
  have HB : Hid (Fr (fun _ => False) w W0 ∧ Blk W0 w.heap.size 27 (tkA t (.slice A1 n1 c1) (.slice A2 n2 c2) (.slice A3 n3 c3)) ∧ Blk W0 (w.heap.size + 1) 27 zTk) := Lib.hid (by
    rw [hW0]
    have e9 : (w.alloc (.cells (tkA t (.slice A1 n1 c1) (.slice A2 n2 c2) (.slice A3 n3 c3)) 27)).heap.size = w.heap.size + 1 := Array.size_push _
    refine ⟨((Fr.refl _ w).alloc _).alloc _, (Blk.new w _ _).keep ((Fr.refl (fun _ => False) _).alloc _) (fun q => q), ?_⟩
    have := Blk.new (w.alloc (.cells (tkA t (.slice A1 n1 c1) (.slice A2 n2 c2) (.slice A3 n3 c3)) 27)) 27 zTk
    rwa [e9] at this)
  have HQ := Lib.hid hW0
  have HMT := Lib.hid (fun W f => pmayt_any (w := W) (HV.out.keep0 f) hok (by omega))
  have HHS := Lib.hid (fun W f => phas_any (w := W) (HV.out.keep0 f) c)
  rw [← l1] at HHS
  have HCO := Lib.hid (fun W f => pclone_any (w := W) (HV.out.keep0 f) (by omega) (by omega) (by omega))
  have HLA := Lib.hid (fun W f => plast_any (w := W) (HV.out.keep0 f) (by omega))
  have HCD := Lib.hid (And.intro hs hk)
  clear a1 a2 a3 l1 l2 l3 hW0 hok hm hsm hE hR hs hk
  go_enter Try.func17, Try.ntmps17
  go_upto_region 1 with fail
  rw [← HQ.out]
  clear HQ
  cases e0 : mayT t with
  | false =>
    rw [e0] at HMT
    have HBL := Lib.hid (HB.out.2.1)
    go_wp2_with ((first | refine wpList_load_mid rfl 27 (.tmp 5) rfl w.heap.size 0 rfl (tkA t (.slice A1 n1 c1) (.slice A2 n2 c2) (.slice A3 n3 c3)).toList _ (blk_range (HBL.out)) Try.underlying27 rfl infoTk ?_ | refine wpList_load_want (by rfl) 27 (.tmp 5) rfl w.heap.size 0 rfl (tkA t (.slice A1 n1 c1) (.slice A2 n2 c2) (.slice A3 n3 c3)).toList _ (blk_range (HBL.out)) Try.underlying27 rfl infoTk ?_))
    clear HBL
    refine (HMT.out _ (HB.out.1)).mono ?_
    rintro e w1 ⟨rfl, f1⟩
    have HZ := Lib.hid (HB.out.2.2.keep f1 (fun q => q))
    have HF1 := Lib.hid (HB.out.1.trans f1 (fun _ _ q => q))
    clear f1
    obtain ⟨rfl, rfl⟩ : E = 2 ∧ R = noTk := by
      have h9 : chgE t c d s k = 2 := by unfold chgE; rw [if_neg (by rw [e0]; simp)]
      exact ⟨HER.out.1.trans h9, HER.out.2.trans (by unfold chgT; rw [h9]; rfl)⟩
    have HX7 := Lib.hid (fr_cells (F := fun _ => False) (a := w) (b := w.heap.size + 1) (.inr (Nat.le_succ _)) zTk.toList 0 w1 (HF1.out))
    have HX8 := Lib.hid (HZ.out)
    go_wp2_with (refine wpList_store_mid rfl 27 (.tmp 10) (.tmp 24) rfl (w.heap.size + 1) 0 zTk rfl rfl (blk_there HX8.out (Nat.le_refl 11)) (infoTk' noTk _ _ _) (tkA_one noTk none none none 0 0 0 0 0 0) ?_)
    refine bodyPost_ret (results_tk rfl _ _ (w.heap.size + 1) zTk rfl (blk_row HX8.out rfl) rfl) rfl ?_
    exact ⟨_, rfl, tk_none _ _, HX7.out⟩
  | true =>
    rw [e0] at HMT
    have HBL := Lib.hid (HB.out.2.1)
    go_wp2_with ((first | refine wpList_load_mid rfl 27 (.tmp 5) rfl w.heap.size 0 rfl (tkA t (.slice A1 n1 c1) (.slice A2 n2 c2) (.slice A3 n3 c3)).toList _ (blk_range (HBL.out)) Try.underlying27 rfl infoTk ?_ | refine wpList_load_want (by rfl) 27 (.tmp 5) rfl w.heap.size 0 rfl (tkA t (.slice A1 n1 c1) (.slice A2 n2 c2) (.slice A3 n3 c3)).toList _ (blk_range (HBL.out)) Try.underlying27 rfl infoTk ?_))
    clear HBL
    refine (HMT.out _ (HB.out.1)).mono ?_
    rintro e w1 ⟨rfl, f1⟩
    have HZ := Lib.hid (HB.out.2.2.keep f1 (fun q => q))
    have HBX := Lib.hid (HB.out.2.1.keep f1 (fun q => q))
    have HF1 := Lib.hid (HB.out.1.trans f1 (fun _ _ q => q))
    clear f1
    cases e1 : hasB n1 c with
    | false =>
      rw [e1] at HHS
      have HBL := Lib.hid (HBX.out)
      go_wp2_with ((first | refine wpList_load_mid rfl 27 (.tmp 5) rfl w.heap.size 0 rfl (tkA t (.slice A1 n1 c1) (.slice A2 n2 c2) (.slice A3 n3 c3)).toList _ (blk_range (HBL.out)) Try.underlying27 rfl infoTk ?_ | refine wpList_load_want (by rfl) 27 (.tmp 5) rfl w.heap.size 0 rfl (tkA t (.slice A1 n1 c1) (.slice A2 n2 c2) (.slice A3 n3 c3)).toList _ (blk_range (HBL.out)) Try.underlying27 rfl infoTk ?_))
      clear HBL
      refine (HHS.out _ (HF1.out)).mono ?_
      rintro e w2 ⟨rfl, f2⟩
      have HZ2 := Lib.hid (HZ.out.keep f2 (fun q => q))
      have HF2 := Lib.hid (HF1.out.trans f2 (fun _ _ q => q))
      clear f2
      obtain ⟨rfl, rfl⟩ : E = 2 ∧ R = noTk := by
        have h9 : chgE t c d s k = 2 := by unfold chgE; rw [if_neg (fun q => by unfold hasB at e1; rw [HL.out.1] at e1; simp [q.2.1, q.2.2.1] at e1)]
        exact ⟨HER.out.1.trans h9, HER.out.2.trans (by unfold chgT; rw [h9]; rfl)⟩
      have HX7 := Lib.hid (fr_cells (F := fun _ => False) (a := w) (b := w.heap.size + 1) (.inr (Nat.le_succ _)) zTk.toList 0 w2 (HF2.out))
      have HX8 := Lib.hid (HZ2.out)
      go_wp2_with (refine wpList_store_mid rfl 27 (.tmp 10) (.tmp 24) rfl (w.heap.size + 1) 0 zTk rfl rfl (blk_there HX8.out (Nat.le_refl 11)) (infoTk' noTk _ _ _) (tkA_one noTk none none none 0 0 0 0 0 0) ?_)
      refine bodyPost_ret (results_tk rfl _ _ (w.heap.size + 1) zTk rfl (blk_row HX8.out rfl) rfl) rfl ?_
      exact ⟨_, rfl, tk_none _ _, HX7.out⟩
    | true =>
      rw [e1] at HHS
      have HBL := Lib.hid (HBX.out)
      go_wp2_with ((first | refine wpList_load_mid rfl 27 (.tmp 5) rfl w.heap.size 0 rfl (tkA t (.slice A1 n1 c1) (.slice A2 n2 c2) (.slice A3 n3 c3)).toList _ (blk_range (HBL.out)) Try.underlying27 rfl infoTk ?_ | refine wpList_load_want (by rfl) 27 (.tmp 5) rfl w.heap.size 0 rfl (tkA t (.slice A1 n1 c1) (.slice A2 n2 c2) (.slice A3 n3 c3)).toList _ (blk_range (HBL.out)) Try.underlying27 rfl infoTk ?_))
      clear HBL
      refine (HHS.out _ (HF1.out)).mono ?_
      rintro e w2 ⟨rfl, f2⟩
      have hbs : 1 ≤ c ∧ c ≤ (n1 : Int) := by unfold hasB at e1; simpa using e1
      have HE1 := Lib.hid hbs
      obtain ⟨m, hm⟩ : ∃ m : Nat, c = (m : Int) + 1 := ⟨(c - 1).toNat, by omega⟩
      have hmn : m < n1 := by omega
      have HM : Hid (c = (m : Int) + 1 ∧ m < n1 ∧ (c - 1).toNat = m) := Lib.hid ⟨hm, hmn, by omega⟩
      obtain ⟨x1, hx⟩ : ∃ x, t.cps[m]? = some x := ⟨_, List.getElem?_eq_getElem (by rw [← HL.out.1]; exact hmn)⟩
      obtain ⟨b1, o1, cc1, e9, hc1⟩ := HA.out.1.cell hx
      injection e9 with e9 e9n e9c
      subst e9
      have HF2 := Lib.hid (HF1.out.trans f2 (fun _ _ q => q))
      have HZ2 := Lib.hid (HZ.out.keep f2 (fun q => q))
      have HBX2 := Lib.hid (HBX.out.keep f2 (fun q => q))
      have hy1 : w2.rangeAt b1 (o1 + m * 6) (cpC x1) := fun j u hu => by have h5 := hc1 j u hu; exact (HF2.out.cell (World.block_lt_of_cell? w _ h5) (fun q => q)).trans h5
      have hx3 : w2.cell? ⟨w.heap.size, 3, none⟩ = some (.slice (some ⟨b1, o1, none⟩) n1 c1) := cp_cell HBX2.out 3 rfl
      obtain ⟨i1, i2, i3, i4⟩ : c - 1 = (m : Int) ∧ wrap64 (m : Int) = (m : Int) ∧ (0 : Int) ≤ (m : Int) ∧ (m : Int) < (n1 : Int) := ⟨by omega, wrap64_in (by omega) (by have := HL.out.1; have := HL.out.2.2.2; omega), by omega, by omega⟩
      have HX := Lib.hid hx
      have HXO := Lib.hid (HT.out.cps x1 (List.mem_of_getElem? hx))
      have HST : Hid ((t.cps.map CpD.st).getD (c - 1).toNat 0 = x1.st) := Lib.hid (by rw [HM.out.2.2, List.getD_eq_getElem?_getD, List.getElem?_map, HX.out]; rfl)
      clear f2 hbs hm hmn hx e9n e9c hc1 HZ HBX HF1 e1
      go_upto_region 4 with (refine wpList_load_mid rfl 49 (.tmp 29) rfl b1 (o1 + m * 6) rfl (cpC x1) _ hy1 Try.underlying49 rfl (info_size infoCp) ?_)
      clear hx3 hy1
      obtain ⟨W3, hW3⟩ : ∃ W, W = w2.alloc (.cells (cpC x1).toArray 49) := ⟨_, rfl⟩
      have HF3 : Hid (Fr (fun _ => False) w2 W3) := Lib.hid (by rw [hW3]; exact (Fr.refl _ w2).alloc _)
      have HB12 : Hid (Blk W3 w2.heap.size 49 (cpC x1).toArray) := Lib.hid (by rw [hW3]; exact Blk.new w2 _ _)
      have HG2 : Hid (w.heap.size + 1 < w2.heap.size) := Lib.hid HZ2.out.lt
      obtain ⟨g12, hg12⟩ : ∃ g, g = w2.heap.size := ⟨_, rfl⟩
      have HG12 := Lib.hid hg12
      rw [← hg12] at HB12
      have HBC := Lib.hid (fun W => pbecome_any x1 HXO.out s HCD.out.1 k HCD.out.2 t.num HT.out.num W)
      have hz0 : W3.cell? ⟨w.heap.size, 0, none⟩ = some (.int .u64 (t.num : Nat)) := cp_cell (HBX2.out.keep HF3.out (fun q => q)) 0 rfl
      try rw [show (.cells #[.int .i64 x1.fl, .int .i64 x1.dy, .int .i64 x1.va, .int .i64 x1.st, .int .i64 x1.ho, .int .u64 (x1.nx : Nat)] 49 : Obj) = .cells (cpC x1).toArray 49 from rfl]
      rw [← hW3, ← hg12]
      clear hW3 hg12
      obtain ⟨ok, hokk⟩ : ∃ b, b = withB t.num s k := ⟨_, rfl⟩
      rw [← hokk] at HBC
      have HOK := Lib.hid hokk
      obtain ⟨C, hC⟩ : ∃ C, C = becD x1 s k := ⟨_, rfl⟩
      rw [← hC] at HBC
      have HCC := Lib.hid hC
      clear hokk hC
      go_wp2_with (refine wpList_load_mid rfl 49 (.tmp 12) rfl g12 0 rfl (cpC x1) _ (blk_range HB12.out) Try.underlying49 rfl (info_size infoCp) ?_)
      refine (HBC.out _).mono ?_
      rintro e w4 ⟨rfl, f4⟩
      clear hz0
      have HF4 := Lib.hid ((HF2.out.trans HF3.out (fun _ _ q => q)).trans f4 (fun _ _ q => q))
      have HZ4 := Lib.hid ((HZ2.out.keep HF3.out (fun q => q)).keep f4 (fun q => q))
      have HBX4 := Lib.hid ((HBX2.out.keep HF3.out (fun q => q)).keep f4 (fun q => q))
      have HB124 := Lib.hid (HB12.out.keep f4 (fun q => q))
      clear f4 HB12 HZ2 HBX2 HF2 HF3
      go_upto_region 5 with fail
      obtain ⟨W5, hW5⟩ : ∃ W, W = w4.alloc (.cells (cpC C).toArray 49) := ⟨_, rfl⟩
      obtain ⟨g13, hg13⟩ : ∃ g, g = w4.heap.size := ⟨_, rfl⟩
      have HCH : Hid (ChW w W5 w.heap.size g12 g13 (tkA t (.slice (some ⟨b1, o1, none⟩) n1 c1) (.slice A2 n2 c2) (.slice A3 n3 c3)) zTk x1 C ∧ w.heap.size + 1 < g12 ∧ g12 < g13) := Lib.hid (by
        have f5 : Fr (fun _ => False) w4 W5 := by rw [hW5]; exact (Fr.refl _ w4).alloc _
        refine ⟨⟨HF4.out.trans f5 (fun _ _ q => q), HBX4.out.keep f5 (fun q => q), HZ4.out.keep f5 (fun q => q), HB124.out.keep f5 (fun q => q), by rw [hW5, hg13]; exact Blk.new w4 _ _⟩, by rw [HG12.out]; exact HG2.out, by rw [hg13]; exact HB124.out.lt⟩)
      try rw [show (.cells #[.int .i64 C.fl, .int .i64 C.dy, .int .i64 C.va, .int .i64 C.st, .int .i64 C.ho, .int .u64 (C.nx : Nat)] 49 : Obj) = .cells (cpC C).toArray 49 from rfl]
      rw [← hW5, ← hg13]
      clear hW5 hg13 HF4 HZ4 HBX4 HB124 HBC HMT HHS HB
      cases ok with
      | false =>
        obtain ⟨rfl, rfl⟩ : E = 2 ∧ R = noTk := by
          have h9 : chgE t c d s k = 2 := by unfold chgE; rw [if_neg (fun q => by have h6 := HOK.out; rw [q.2.2.2] at h6; cases h6)]
          exact ⟨HER.out.1.trans h9, HER.out.2.trans (by unfold chgT; rw [h9]; rfl)⟩
        have HX7 := Lib.hid (fr_cells (F := fun _ => False) (a := w) (b := w.heap.size + 1) (.inr (Nat.le_succ _)) zTk.toList 0 W5 (HCH.out.1.fr))
        have HX8 := Lib.hid (HCH.out.1.bz)
        go_wp2_with (refine wpList_store_mid rfl 27 (.tmp 10) (.tmp 43) rfl (w.heap.size + 1) 0 zTk rfl rfl (blk_there HX8.out (Nat.le_refl 11)) (infoTk' noTk _ _ _) (tkA_one noTk none none none 0 0 0 0 0 0) ?_)
        refine bodyPost_ret (results_tk rfl _ _ (w.heap.size + 1) zTk rfl (blk_row HX8.out rfl) rfl) rfl ?_
        exact ⟨_, rfl, tk_none _ _, HX7.out⟩
      | true =>
        have HLD := Lib.hid (fun W => pleads_any x1.st s W)
        have hz3 : W5.cell? ⟨g12, 3, none⟩ = some (.int .i64 x1.st) := cp_cells HCH.out.1.b12
        cases e5 : leadsS x1.st s with
        | false =>
          rw [e5] at HLD
          go_wp2_with fail
          refine (HLD.out _).mono ?_
          rintro e w6 ⟨rfl, rfl⟩
          obtain ⟨rfl, rfl⟩ : E = 9 ∧ R = noTk := by
            have h9 : chgE t c d s k = 9 := by unfold chgE; rw [if_pos ⟨e0, HE1.out.1, (by rw [← HL.out.1]; exact HE1.out.2), (by rw [← HOK.out])⟩, HST.out, if_neg (by rw [e5]; simp)]
            exact ⟨HER.out.1.trans h9, HER.out.2.trans (by unfold chgT; rw [h9]; rfl)⟩
          have HX7 := Lib.hid (fr_cells (F := fun _ => False) (a := w) (b := w.heap.size + 1) (.inr (Nat.le_succ _)) zTk.toList 0 w6 (HCH.out.1.fr))
          have HX8 := Lib.hid (HCH.out.1.bz)
          go_wp2_with (refine wpList_store_mid rfl 27 (.tmp 10) (.tmp 50) rfl (w.heap.size + 1) 0 zTk rfl rfl (blk_there HX8.out (Nat.le_refl 11)) (infoTk' noTk _ _ _) (tkA_one noTk none none none 0 0 0 0 0 0) ?_)
          refine bodyPost_ret (results_tk rfl _ _ (w.heap.size + 1) zTk rfl (blk_row HX8.out rfl) rfl) rfl ?_
          exact ⟨_, rfl, tk_none _ _, HX7.out⟩
        | true =>
          rw [e5] at HLD
          go_wp2_with fail
          refine (HLD.out _).mono ?_
          rintro e w6 ⟨rfl, rfl⟩
          have HE5 := Lib.hid e5
          clear e5 HLD hz3
          obtain ⟨la, hla⟩ : ∃ z, z = lastT t := ⟨_, rfl⟩
          have HLL := Lib.hid hla
          rw [← hla] at HLA
          clear hla
          have HBL := Lib.hid (HCH.out.1.bx)
          go_wp2_with ((first | refine wpList_load_mid rfl 27 (.tmp 5) rfl w.heap.size 0 rfl (tkA t (.slice (some ⟨b1, o1, none⟩) n1 c1) (.slice A2 n2 c2) (.slice A3 n3 c3)).toList _ (blk_range (HBL.out)) Try.underlying27 rfl infoTk ?_ | refine wpList_load_want (by rfl) 27 (.tmp 5) rfl w.heap.size 0 rfl (tkA t (.slice (some ⟨b1, o1, none⟩) n1 c1) (.slice A2 n2 c2) (.slice A3 n3 c3)).toList _ (blk_range (HBL.out)) Try.underlying27 rfl infoTk ?_))
          clear HBL
          refine (HLA.out _ (HCH.out.1.fr)).mono ?_
          rintro e w7 ⟨rfl, f7⟩
          have HC7 := Lib.hid (And.intro (HCH.out.1.keep0 f7) HCH.out.2)
          clear f7 HCH
          by_cases g6 : la ≤ d
          · have g6i : ¬ d < la := by omega
            by_cases g7 : d ≤ 1000000
            · have g7i : ¬ 1000000 < d := by omega
              have HG67 := Lib.hid (And.intro g6 g7)
              have hz10 : w7.cell? ⟨w.heap.size, 10, none⟩ = some (.slice A3 n3 c3) := cp_cell HC7.out.1.bx 10 rfl
              by_cases g8 : n3 = 60
              · have g8i : (n3 : Int) ≥ 60 := by omega
                have g8j : (60 : Int) ≤ (n3 : Int) := by omega
                obtain ⟨rfl, rfl⟩ : E = 8 ∧ R = noTk := by
                  have h9 : chgE t c d s k = 8 := by unfold chgE; rw [if_pos ⟨e0, HE1.out.1, (by rw [← HL.out.1]; exact HE1.out.2), (by rw [← HOK.out])⟩, HST.out, if_pos HE5.out, if_pos (by rw [← HLL.out]; exact HG67.out), if_pos (by rw [← HL.out.2.2.1]; exact g8)]
                  exact ⟨HER.out.1.trans h9, HER.out.2.trans (by unfold chgT; rw [h9]; rfl)⟩
                have HX7 := Lib.hid (fr_cells (F := fun _ => False) (a := w) (b := w.heap.size + 1) (.inr (Nat.le_succ _)) zTk.toList 0 w7 (HC7.out.1.fr))
                have HX8 := Lib.hid (HC7.out.1.bz)
                go_wp2_with (refine wpList_store_mid rfl 27 (.tmp 10) (.tmp 66) rfl (w.heap.size + 1) 0 zTk rfl rfl (blk_there HX8.out (Nat.le_refl 11)) (infoTk' noTk _ _ _) (tkA_one noTk none none none 0 0 0 0 0 0) ?_)
                refine bodyPost_ret (results_tk rfl _ _ (w.heap.size + 1) zTk rfl (blk_row HX8.out rfl) rfl) rfl ?_
                exact ⟨_, rfl, tk_none _ _, HX7.out⟩
              · have hn60 : n3 ≤ 60 := by
                  have h9 := e0
                  unfold mayT sizeB at h9
                  simp only [Bool.and_eq_true, decide_eq_true_eq] at h9
                  rw [HL.out.2.2.1]
                  omega
                have g8i : ¬ (60 : Int) ≤ (n3 : Int) := by omega
                have HE0 : Hid (E = 0 ∧ R = { t with cps := t.cps.modify m (fun x => chgCp x s k), his := t.his ++ [⟨d, c, x1.st, s⟩] }) := Lib.hid (by
                  have h9 : chgE t c d s k = 0 := by
                    unfold chgE
                    rw [if_pos ⟨e0, HE1.out.1, (by rw [← HL.out.1]; exact HE1.out.2), (by rw [← HOK.out])⟩, HST.out, if_pos HE5.out, if_pos (by rw [← HLL.out]; exact HG67.out), if_neg (by rw [← HL.out.2.2.1]; exact g8)]
                  exact ⟨HER.out.1.trans h9, HER.out.2.trans (by unfold chgT; rw [if_pos h9, HM.out.2.2, HST.out.symm, HM.out.2.2])⟩)
                have HN60 := Lib.hid hn60
                clear g8 hn60 g6 g7 e0
                obtain ⟨rfl, hRR⟩ : E = 0 ∧ R = R := ⟨HE0.out.1, rfl⟩
                clear hRR
                have HBL := Lib.hid HC7.out.1.bx
                go_upto_region 13 with fail
                clear hz10 g6i g7i g8i
                go_wp2_with ((first | refine wpList_load_mid rfl 27 (.tmp 5) rfl w.heap.size 0 rfl (tkA t (.slice (some ⟨b1, o1, none⟩) n1 c1) (.slice A2 n2 c2) (.slice A3 n3 c3)).toList _ (blk_range (HBL.out)) Try.underlying27 rfl infoTk ?_ | refine wpList_load_want (by rfl) 27 (.tmp 5) rfl w.heap.size 0 rfl (tkA t (.slice (some ⟨b1, o1, none⟩) n1 c1) (.slice A2 n2 c2) (.slice A3 n3 c3)).toList _ (blk_range (HBL.out)) Try.underlying27 rfl infoTk ?_))
                clear HBL
                refine (HCO.out _ HC7.out.1.fr).mono ?_
                rintro e w8 ⟨ov, rfl, ⟨oc, ox, oe, rfl, ho1, ho2, ho3⟩, f8⟩
                obtain ⟨A4, n4, c4, ev4⟩ : ∃ A n c, oc = .slice A n c := by obtain ⟨A, c, e, _⟩ := own_slice ho1; exact ⟨A, _, c, e⟩
                obtain ⟨A5, n5, c5, ev5⟩ : ∃ A n c, ox = .slice A n c := by obtain ⟨A, c, e, _⟩ := own_slice ho2; exact ⟨A, _, c, e⟩
                obtain ⟨A6, n6, c6, ev6⟩ : ∃ A n c, oe = .slice A n c := by obtain ⟨A, c, e, _⟩ := own_slice ho3; exact ⟨A, _, c, e⟩
                subst ev4 ev5 ev6
                have HC8 := Lib.hid (HC7.out.1.keep0 f8)
                obtain ⟨B7, hB7⟩ : ∃ B, B = w7.heap.size := ⟨_, rfl⟩
                have HB7 : Hid (g13 < B7 ∧ B7 ≤ w8.heap.size ∧ w.heap.size + 1 < g12 ∧ g12 < g13) := Lib.hid ⟨by rw [hB7]; exact HC7.out.1.b13.lt, by rw [hB7]; exact f8.size, HC7.out.2⟩
                rw [← hB7] at ho1 ho2 ho3
                have HO8 := Lib.hid (And.intro ho1 (And.intro ho2 ho3))
                clear f8 ho1 ho2 ho3 hB7 HC7 HCO HLA
                go_upto_region 14 with (refine wpList_store_mid rfl 27 (.tmp 5) (.tmp 68) rfl w.heap.size 0 (tkA t (.slice A4 n4 c4) (.slice A5 n5 c5) (.slice A6 n6 c6)) rfl rfl (blk_there HC8.out.bx (Nat.le_refl 11)) (infoTk' _ _ _ _) (tkA_one _ _ _ _ _ _ _ _ _ _) ?_)
                obtain ⟨W9, hW9⟩ : ∃ W, W = w8.setCells w.heap.size 0 (tkA t (.slice A4 n4 c4) (.slice A5 n5 c5) (.slice A6 n6 c6)).toList := ⟨_, rfl⟩
                have hbx9 := HC8.out.box (box' := tkA t (.slice A4 n4 c4) (.slice A5 n5 c5) (.slice A6 n6 c6)) rfl (Nat.le_refl _) (by have := HB7.out; omega) (by have := HB7.out; omega) hW9
                have HC9 := Lib.hid hbx9.1
                have HO9 : Hid (RwO W9 B7 49 6 cpC (.slice A4 n4 c4) t.cps ∧ RwO W9 B7 62 2 txC (.slice A5 n5 c5) t.txs ∧ RwO W9 B7 51 4 evC (.slice A6 n6 c6) t.his) := Lib.hid ⟨HO8.out.1.keepB hbx9.2 (fun b q => by have h6 : b = w.heap.size := q; have := HB7.out; omega), HO8.out.2.1.keepB hbx9.2 (fun b q => by have h6 : b = w.heap.size := q; have := HB7.out; omega), HO8.out.2.2.keepB hbx9.2 (fun b q => by have h6 : b = w.heap.size := q; have := HB7.out; omega)⟩
                rw [← hW9]
                have HW89 := Lib.hid hbx9.2.size
                clear hW9 hbx9 HC8 HO8
                obtain ⟨g4, c9, e49, hc49⟩ : ∃ g c', Value.slice A4 n4 c4 = .slice (some ⟨g, 0, none⟩) n1 c' ∧ True := by
                  obtain ⟨_, ⟨h1, h2⟩ | ⟨g, c', cur, hv', _⟩⟩ := HO9.out.1
                  · have := HM.out.2.1; have := HL.out.1; omega
                  · exact ⟨g, c', by rw [hv', HL.out.1], trivial⟩
                injection e49 with e4a e4b e4c
                subst e4a e4b e4c
                clear hc49
                have hz3 : W9.cell? ⟨w.heap.size, 3, none⟩ = some (.slice (some ⟨g4, 0, none⟩) n4 c4) := cp_cell HC9.out.bx 3 rfl
                have HLO := Lib.hid (HO9.out.1.low (b := g4) rfl)
                have hset := RwO.set HO9.out.1 cpC_len (m := m) C (by rw [← HL.out.1]; exact HM.out.2.1)
                have HTH := Lib.hid hset.1
                obtain ⟨W10, hW10⟩ : ∃ W, W = W9.setCells g4 (m * 6) (cpC C) := ⟨_, rfl⟩
                have hfx := fr_cells (F := fun b => b = g4) (a := W9) (b := g4) (.inl rfl) (cpC C) (m * 6) W9 (Fr.refl _ _)
                have HO10 : Hid (RwO W10 B7 49 6 cpC (.slice (some ⟨g4, 0, none⟩) n4 c4) (t.cps.set m C) ∧ RwO W10 B7 62 2 txC (.slice A5 n5 c5) t.txs ∧ RwO W10 B7 51 4 evC (.slice A6 n6 c6) t.his) := Lib.hid (by
                  rw [hW10]
                  refine ⟨hset.2, HO9.out.2.1.keep hfx (fun b hb q => ?_), HO9.out.2.2.keep hfx (fun b hb q => ?_)⟩
                  · have h6 : b = g4 := q
                    subst h6
                    obtain ⟨_, k1⟩ := HO9.out.2.1.type hb
                    obtain ⟨_, k2⟩ := HO9.out.1.type (b := b) rfl
                    exact absurd (blk_apart k1 k2) (by decide)
                  · have h6 : b = g4 := q
                    subst h6
                    obtain ⟨_, k1⟩ := HO9.out.2.2.type hb
                    obtain ⟨_, k2⟩ := HO9.out.1.type (b := b) rfl
                    exact absurd (blk_apart k1 k2) (by decide))
                have HC10 : Hid (ChW w W10 w.heap.size g12 g13 (tkA t (.slice (some ⟨g4, 0, none⟩) n4 c4) (.slice A5 n5 c5) (.slice A6 n6 c6)) zTk x1 C) := Lib.hid (by rw [hW10]; exact HC9.out.keepF hfx (fun b q => by have h6 : b = g4 := q; have := HLO.out; have := HB7.out; omega))
                have HW8 : Hid (w8.heap.size ≤ W10.heap.size) := Lib.hid (by rw [hW10]; exact Nat.le_trans HW89.out hfx.size)
                have HQ10 := Lib.hid hW10
                clear hset hW10 hfx
                go_upto_region 15 with (first
                  | (refine wpList_load_mid rfl 49 (.tmp 13) rfl g13 0 rfl (cpC C) _ (blk_range HC9.out.b13) Try.underlying49 rfl (info_size infoCp) ?_)
                  | (refine wpList_store_mid rfl 49 (.tmp 74) (.tmp 73) rfl g4 (m * 6) (cpC C).toArray rfl rfl HTH.out (info_size infoCp) (by simp [Value.oneCell']) ?_))
                rw [← HQ10.out]
                clear HQ10 hz3 HC9 HO9 HTH
                have hz10 : W10.cell? ⟨w.heap.size, 10, none⟩ = some (.slice A6 n6 c6) := cp_cell HC10.out.bx 10 rfl
                have hz12 : W10.cell? ⟨g12, 3, none⟩ = some (.int .i64 x1.st) := cp_cells HC10.out.b12
                have fa : Fr (fun _ => False) W10 (W10.alloc (.cells #[.int .i64 d, .int .i64 c, .int .i64 x1.st, .int .i64 s] 51)) := (Fr.refl _ W10).alloc _
                have HE11 : Hid (RwO (W10.alloc (.cells #[.int .i64 d, .int .i64 c, .int .i64 x1.st, .int .i64 s] 51)) B7 51 4 evC (.slice A6 n6 c6) t.his ∧ Blk (W10.alloc (.cells #[.int .i64 d, .int .i64 c, .int .i64 x1.st, .int .i64 s] 51)) W10.heap.size 51 (evC ⟨d, c, x1.st, s⟩).toArray ∧ t.his.length ≤ 100000 ∧ B7 ≤ (W10.alloc (.cells #[.int .i64 d, .int .i64 c, .int .i64 x1.st, .int .i64 s] 51)).heap.size) := Lib.hid ⟨HO10.out.2.2.keep0 fa, Blk.new W10 _ _, by have := HL.out.2.2.2; omega, Nat.le_trans (Nat.le_trans HB7.out.2.1 HW8.out) fa.size⟩
                have HC11 := Lib.hid (HC10.out.keep0 fa)
                have HO11 := Lib.hid (And.intro (HO10.out.1.keep0 fa) (HO10.out.2.1.keep0 fa))
                clear fa
                go_upto_region 16 with (at_builtin; refine wpList_append_ev rfl (.tmp 76) (.tmp 83) rfl rfl HE11.out.1 rfl HE11.out.2.1 HE11.out.2.2.1 HE11.out.2.2.2 ?_; intro v12 w12 ho12 f12; obtain ⟨A7, n7, c7, ev7⟩ : ∃ A n c, v12 = .slice A n c := (by obtain ⟨A, c, e, _⟩ := own_slice ho12; exact ⟨A, _, c, e⟩); subst ev7; have HC12 := Lib.hid (HC11.out.keepF f12 (fun b q => by have h6 := HE11.out.1.low q; have := HB7.out; omega)); have HO12 := Lib.hid (And.intro (HO11.out.1.keepT HE11.out.1 (by decide) f12) (And.intro (HO11.out.2.keepT HE11.out.1 (by decide) f12) ho12)); clear ho12 f12 hz10; have hq12 := cp_cell HC12.out.bx 10 rfl; have hf12 := HC12.out.bx.frozen 10)
                obtain ⟨W13, hW13⟩ : ∃ W, W = w12.setCell ⟨w.heap.size, 10, none⟩ (.slice A7 n7 c7) := ⟨_, rfl⟩
                have f13 : Fr (fun b => b = w.heap.size) w12 W13 := by rw [hW13]; exact (Fr.refl (fun b => b = w.heap.size) w12).setCell (p := ⟨w.heap.size, 10, none⟩) (.inl rfl) _
                have hbx13 : Blk W13 w.heap.size 27 (tkA t (.slice (some ⟨g4, 0, none⟩) n4 c4) (.slice A5 n5 c5) (.slice A7 n7 c7)) := by rw [hW13]; exact HC12.out.bx.set_ 10 _
                have HZ13 : Hid (Blk W13 (w.heap.size + 1) 27 zTk) := Lib.hid (HC12.out.bz.keep f13 (fun q => by have h6 : w.heap.size + 1 = w.heap.size := q; omega))
                have HF13 : Hid (Fr (fun _ => False) w W13) := Lib.hid (HC12.out.fr.trans f13 (fun b hb q => by have h6 : b = w.heap.size := q; omega))
                have HO13 : Hid (RwO W13 B7 49 6 cpC (.slice (some ⟨g4, 0, none⟩) n4 c4) (t.cps.set m C) ∧ RwO W13 B7 62 2 txC (.slice A5 n5 c5) t.txs ∧ RwO W13 B7 51 4 evC (.slice A7 n7 c7) (t.his ++ [⟨d, c, x1.st, s⟩])) := Lib.hid (by
                  have hb0 : ∀ b, (b = w.heap.size) → b < B7 := fun b q => by have := HB7.out; omega
                  exact ⟨HO12.out.1.keepB f13 hb0, HO12.out.2.1.keepB f13 hb0, HO12.out.2.2.keepB f13 hb0⟩)
                have HBX13 := Lib.hid hbx13
                rw [← hW13]
                clear hW13 f13 hbx13 hq12 hf12 hz12 HC12 HO12 HO11 HC11 HE11 HO10 HC10
                have HX14 := Lib.hid (fr_cells (F := fun _ => False) (a := w) (b := w.heap.size + 1) (.inr (Nat.le_succ _)) (tkA t (.slice (some ⟨g4, 0, none⟩) n4 c4) (.slice A5 n5 c5) (.slice A7 n7 c7)).toList 0 W13 HF13.out)
                have HX15 := Lib.hid (fr_cells (F := fun b => b = w.heap.size + 1) (a := W13) (b := w.heap.size + 1) (.inl rfl) (tkA t (.slice (some ⟨g4, 0, none⟩) n4 c4) (.slice A5 n5 c5) (.slice A7 n7 c7)).toList 0 W13 (Fr.refl _ _))
                go_wp2_with (first
                  | (refine wpList_load_mid rfl 27 (.tmp 5) rfl w.heap.size 0 rfl (tkA t (.slice (some ⟨g4, 0, none⟩) n4 c4) (.slice A5 n5 c5) (.slice A7 n7 c7)).toList _ (blk_range HBX13.out) Try.underlying27 rfl infoTk ?_)
                  | (refine wpList_store_mid rfl 27 (.tmp 10) (.tmp 86) rfl (w.heap.size + 1) 0 (tkA t (.slice (some ⟨g4, 0, none⟩) n4 c4) (.slice A5 n5 c5) (.slice A7 n7 c7)) rfl rfl (blk_there HZ13.out (Nat.le_refl 11)) (infoTk' _ _ _ _) (tkA_one _ _ _ _ _ _ _ _ _ _) ?_))
                refine bodyPost_ret (results_tk rfl _ _ (w.heap.size + 1) (tkA t (.slice (some ⟨g4, 0, none⟩) n4 c4) (.slice A5 n5 c5) (.slice A7 n7 c7)) rfl (blk_row HZ13.out rfl) rfl) rfl ?_
                have hb1 : ∀ b, (b = w.heap.size + 1) → b < B7 := fun b q => by have := HB7.out; omega
                have hcps : t.cps.set m C = t.cps.modify m (fun x => chgCp x s k) := by
                  rw [HCC.out, becD_chg x1 t.num s k HOK.out.symm]
                  exact set_modify (fun x => chgCp x s k) HX.out
                refine ⟨_, rfl, ?_, HX14.out⟩
                rw [HE0.out.2]
                refine ⟨_, _, _, rfl, ?_, ?_, ?_⟩
                · have h5 := (HO13.out.1.keepB HX15.out hb1).base (B' := w.heap.size) (by have := HB7.out; omega)
                  rw [hcps] at h5
                  exact h5
                · exact (HO13.out.2.1.keepB HX15.out hb1).base (B' := w.heap.size) (by have := HB7.out; omega)
                · exact (HO13.out.2.2.keepB HX15.out hb1).base (B' := w.heap.size) (by have := HB7.out; omega)
            · have g7i : 1000000 < d := by omega
              obtain ⟨rfl, rfl⟩ : E = 15 ∧ R = noTk := by
                have h9 : chgE t c d s k = 15 := by unfold chgE; rw [if_pos ⟨e0, HE1.out.1, (by rw [← HL.out.1]; exact HE1.out.2), (by rw [← HOK.out])⟩, HST.out, if_pos HE5.out, if_neg (fun q => g7 q.2)]
                exact ⟨HER.out.1.trans h9, HER.out.2.trans (by unfold chgT; rw [h9]; rfl)⟩
              have HX7 := Lib.hid (fr_cells (F := fun _ => False) (a := w) (b := w.heap.size + 1) (.inr (Nat.le_succ _)) zTk.toList 0 w7 (HC7.out.1.fr))
              have HX8 := Lib.hid (HC7.out.1.bz)
              go_wp2_with (refine wpList_store_mid rfl 27 (.tmp 10) (.tmp 60) rfl (w.heap.size + 1) 0 zTk rfl rfl (blk_there HX8.out (Nat.le_refl 11)) (infoTk' noTk _ _ _) (tkA_one noTk none none none 0 0 0 0 0 0) ?_)
              refine bodyPost_ret (results_tk rfl _ _ (w.heap.size + 1) zTk rfl (blk_row HX8.out rfl) rfl) rfl ?_
              exact ⟨_, rfl, tk_none _ _, HX7.out⟩
          · have g6i : d < la := by omega
            obtain ⟨rfl, rfl⟩ : E = 15 ∧ R = noTk := by
              have h9 : chgE t c d s k = 15 := by unfold chgE; rw [if_pos ⟨e0, HE1.out.1, (by rw [← HL.out.1]; exact HE1.out.2), (by rw [← HOK.out])⟩, HST.out, if_pos HE5.out, if_neg (fun q => g6 (by rw [HLL.out]; exact q.1))]
              exact ⟨HER.out.1.trans h9, HER.out.2.trans (by unfold chgT; rw [h9]; rfl)⟩
            have HX7 := Lib.hid (fr_cells (F := fun _ => False) (a := w) (b := w.heap.size + 1) (.inr (Nat.le_succ _)) zTk.toList 0 w7 (HC7.out.1.fr))
            have HX8 := Lib.hid (HC7.out.1.bz)
            go_wp2_with (refine wpList_store_mid rfl 27 (.tmp 10) (.tmp 60) rfl (w.heap.size + 1) 0 zTk rfl rfl (blk_there HX8.out (Nat.le_refl 11)) (infoTk' noTk _ _ _) (tkA_one noTk none none none 0 0 0 0 0 0) ?_)
            refine bodyPost_ret (results_tk rfl _ _ (w.heap.size + 1) zTk rfl (blk_row HX8.out rfl) rfl) rfl ?_
            exact ⟨_, rfl, tk_none _ _, HX7.out⟩
end Go.Proofs.Ytmopkfjnjbimnaa
