/- couponref06: Ask. -/
import Derived.Test.YtcnlgbjkjlbmbaaGreatQrp
namespace Go.Proofs.YtcnlgbjkjlbmbaaGreat
open Go.RowKit

theorem IntsN.stay {F : Nat → Prop} {w w' : World} {v : Value} {zs : List Int} (h : IntsN w v zs) (f : Fr F w w') (hF : ∀ b, v.ownBlock = some b → 0 < zs.length → ¬ F b) : IntsN w' v zs := by
 obtain ⟨⟨A, c, rfl, h1, h2⟩, h3⟩ := h
 refine ⟨⟨A, c, rfl, h1, fun q => ?_⟩, h3⟩
 obtain ⟨b, off, rfl, h4⟩ := h2 q
 exact ⟨b, off, rfl, fun i z hz => (f.cell (World.block_lt_of_cell? w _ (h4 i z hz)) (hF b rfl q)).trans (h4 i z hz)⟩
theorem IntsN.low {w : World} {v : Value} {zs : List Int} (h : IntsN w v zs) : ∀ b, v.ownBlock = some b → 0 < zs.length → b < w.heap.size := fun b hb h0 => by
 obtain ⟨⟨A, c, rfl, h1, h2⟩, h3⟩ := h
 obtain ⟨b', off, rfl, h4⟩ := h2 h0
 have e : b' = b := by injection hb
 rw [← e]
 exact World.block_lt_of_cell? w _ (h4 0 zs[0] (List.getElem?_eq_getElem h0))
def OT (t : TypeId) (w : World) (v : Value) : Prop := ∀ b, v.ownBlock = some b → ∃ cs, Blk w b t cs
section
variable {t t' : TypeId} {w w' : World} {v : Value} {k : Nat} {cs : Array Value}
theorem OT.not (h : OT t w v) (hb : Blk w k t' cs) (ht : t ≠ t') : ∀ b, v.ownBlock = some b → b ≠ k := fun b hb' e => by
 obtain ⟨cs', q⟩ := h b hb'
 subst e
 exact ht (blk_type q hb)
theorem OT.keep {F : Nat → Prop} (h : OT t w v) (f : Fr F w w') (hF : ∀ b, v.ownBlock = some b → ¬ F b) : OT t w' v := fun b hb => by
 obtain ⟨cs', q⟩ := h b hb
 exact ⟨cs', q.keep f (hF b hb)⟩
theorem OT.new (h : OT t w v) (f : Fr (fun _ => False) w w') : OT t w' v := h.keep f (fun _ _ q => q)
theorem OT.own {base n size : Nat} {xs : List Value} (h : w.ownsRow base t size v n xs) : OT t w v := fun b hb => own_blk h hb
theorem OT.none_ : OT t w (.slice none 0 0) := fun b hb => by cases hb
variable {r : Nat} {vp vc vd vl : Value} {fr z room : Int}
theorem OT.p (h : OT 50 w v) (hB : RpB w r vp vc vd vl fr z room) : ∀ b, v.ownBlock = some b → b ≠ r := h.not hB (by decide)
theorem OT.c (h : OT 101 w v) (hB : RpB w r vp vc vd vl fr z room) : ∀ b, v.ownBlock = some b → b ≠ r := h.not hB (by decide)
theorem OT.i (h : OT 3 w v) (hB : RpB w r vp vc vd vl fr z room) : ∀ b, v.ownBlock = some b → b ≠ r := h.not hB (by decide)
end
def RpC (w : World) (r : Nat) (pg : List (List UInt8)) (ch : List Chg) (M : Nat) (fr z room : Int) (vp vc vd vl : Value) (di cl : List Int) : Prop := RpB w r vp vc vd vl fr z room ∧ PgsV w vp pg ∧ RcV w vc ch ∧ IntsN w vd di ∧ di.length ≤ M ∧ IntsN w vl cl ∧ cl.length ≤ M ∧ OT 50 w vp ∧ OT 101 w vc ∧ OT 3 w vd ∧ OT 3 w vl
def RP (w : World) (r : Nat) (pg : List (List UInt8)) (ch : List Chg) (M : Nat) (fr z : Int) : Prop := ∃ room vp vc vd vl di cl, RpC w r pg ch M fr z room vp vc vd vl di cl
section
variable {w w' : World} {r M : Nat} {pg : List (List UInt8)} {ch : List Chg} {fr z room : Int} {vp vc vd vl : Value} {di cl : List Int} {x : List UInt8}
def AskQ (w W : World) (r M : Nat) (fr z room : Int) (vp vc vd VL : Value) (CL : List Int) : Prop := RpB W r vp vc vd VL fr z room ∧ IntsN W VL CL ∧ CL.length ≤ M + 1 ∧ OT 3 W VL ∧ Fr (fun b => b = r) w W ∧ Blk W w.heap.size 50 (cellsB (nought 512)).toArray ∧ ∀ b, VL.ownBlock = some b → 0 < CL.length → b ≠ w.heap.size
theorem ask_end {W : World} {VL : Value} {CL : List Int} (h : RpC w r pg ch M fr z room vp vc vd vl di cl) (hq : AskQ w W r M fr z room vp vc vd VL CL) :
 Ending.returned (av x) = .returned (av x) ∧ RP (W.setCells w.heap.size 0 (cellsB x)) r pg ch (M + 1) fr z ∧ Fr (fun b => b = r) w (W.setCells w.heap.size 0 (cellsB x)) := by
 obtain ⟨hB, hP, hC, hD, hd, hL, hl, s0, s1, s2, s3⟩ := h
 obtain ⟨qB, qI, ql, qs, qf, qb, qn⟩ := hq
 have fS : Fr (fun b => b = w.heap.size) W (W.setCells w.heap.size 0 (cellsB x)) := Fr.setCells (F := fun b => b = w.heap.size) (.inl rfl) (Fr.refl _ _)
 have fF : Fr (fun b => b = r) w (W.setCells w.heap.size 0 (cellsB x)) := qf.trans fS (fun b hb e => by omega)
 have hlt := hB.lt
 exact ⟨rfl, ⟨room, vp, vc, vd, VL, di, CL, qB.keep fS (fun e => by omega), hP.keep fF (s0.p hB), hC.keep fF (s1.c hB), hD.keep fF (s2.i hB), by omega, qI.stay fS (fun b hb h0 e => qn b hb h0 e), ql, s0.keep fF (s0.p hB), s1.keep fF (s1.c hB), s2.keep fF (s2.i hB), qs.keep fS (qs.not qb (by decide))⟩, fF⟩
set_option maxRecDepth 100000 in
set_option maxHeartbeats 4000000 in
theorem rask_any (h : RP w r pg ch M fr z) (hM : M ≤ 40000) (hfr : 0 ≤ fr) {n : Nat} (hn : pg[n]? = some x) : Calls Tryz.prog 62 #[.pointer (some ⟨r, 0, none⟩), .int .i64 (n : Nat)] w fun e w' => e = .returned (av x) ∧ RP w' r pg ch (M + 1) fr z ∧ Fr (fun b => b = r) w w' := by
 obtain ⟨room, vp, vc, vd, vl, di, cl, h⟩ := h
 have HR0 := Lib.hid h
 have HN := Lib.hid hn
 have hrl := h.1.lt
 obtain ⟨W0, hW0⟩ : ∃ W0, W0 = w.alloc (.cells Tryz.zeroCells50 50) := ⟨_, rfl⟩
 have f0 : Fr (fun _ => False) w W0 := by rw [hW0]; exact (Fr.refl _ w).alloc _
 have hb0 : Blk W0 w.heap.size 50 (cellsB (nought 512)).toArray := by rw [hW0, zeroPgCells]; exact Blk.new w _ _
 have k2 := (rp_cells (h.1.keep f0 (fun q => q))).2.2.1
 have HAS := Lib.hid (rhas6_any (h.2.2.2.1.keep f0 (fun _ _ q => q)).1 (by have := h.2.2.2.2.1; omega) (n : Int))
 have H0 := Lib.hid (And.intro f0 (And.intro hb0 hrl))
 clear h hn f0 hb0 hrl
 go_enter Tryz.func62, Tryz.ntmps62
 subst hW0
 go_wp2_with fail
 refine HAS.out.mono ?_
 rintro e w1 ⟨b, rfl, f1⟩
 have F1 := H0.out.1.trans f1 (fun _ _ q => q)
 have H1 := Lib.hid (And.intro F1 (H0.out.2.1.keep f1 (fun q => q)))
 clear f1 F1 HAS k2
 cases b with
 | true =>
   have HQ : Hid (AskQ w w1 r M fr z room vp vc vd vl cl) := Lib.hid ⟨HR0.out.1.keep H1.out.1 (fun q => q), HR0.out.2.2.2.2.2.1.keep H1.out.1 (fun _ _ q => q), by have := HR0.out.2.2.2.2.2.2.1; omega, HR0.out.2.2.2.2.2.2.2.2.2.2.new H1.out.1, H1.out.1.mono (fun _ _ q => q.elim), H1.out.2, fun b hb h0 e => by have := HR0.out.2.2.2.2.2.1.low b hb h0; omega⟩
   obtain ⟨pb, poff, pc, hpv, hprg, hpx⟩ := (HR0.out.2.1.keep HQ.out.2.2.2.2.1 (OT.p HR0.out.2.2.2.2.2.2.2.1 HR0.out.1)).at_ HN.out
   have hth := HQ.out.2.2.2.2.2.1.there (o := 0) (n := 512) (by simp [cellsB_len, nought_len])
   obtain ⟨q0, q1, q2, q3, q4, q5, q6⟩ := rp_cells HQ.out.1
   obtain ⟨L, hL⟩ : ∃ L, L = pg.length := ⟨_, rfl⟩
   have hnL : (n : Int) < (L : Int) := by have := (List.getElem?_eq_some_iff.1 HN.out).1; omega
   rw [hpv, ← hL] at q0
   have HX := Lib.hid (And.intro hprg (And.intro hpx hth))
   clear hprg hpx hth hpv hL
   go_wp2_with (first
    | (refine wpList_load_mid rfl 50 _ rfl pb (poff + n * 512) rfl (cellsB x) _ HX.out.1 Tryz.underlying50 rfl (by rw [infoPgS, cellsB_len, HX.out.2.1]) ?_)
    | (refine wpList_store_mid rfl 50 _ _ rfl w.heap.size 0 (cellsB x).toArray rfl rfl (by simp only [List.size_toArray, cellsB_len, HX.out.2.1]; exact HX.out.2.2) (by rw [infoPgS]; simp [cellsB_len, HX.out.2.1]) (all_oneCell_toArray (cellsB_one _)) ?_))
   refine bodyPost_ret (results_cell_row rfl _ _ w.heap.size 50 (cellsB x).toArray (0, 0) _ rfl ?_ Tryz.underlying50 rfl (by rw [infoPgS]; simp [cellsB_len, HX.out.2.1])) rfl ?_
   · have := HQ.out.2.2.2.2.2.1.over (o := 0) (m := x) (by rw [nought_len, HX.out.2.1]; omega)
     rw [patch_all (by rw [nought_len, HX.out.2.1])] at this
     exact this
   · exact ask_end HR0.out HQ.out
 | false =>
   have HWO := Lib.hid (without_any (HR0.out.2.2.2.2.2.1.keep H1.out.1 (fun _ _ q => q)).1 (by have := HR0.out.2.2.2.2.2.2.1; omega) (n : Int))
   have k3 := (rp_cells (HR0.out.1.keep H1.out.1 (fun q => q))).2.2.2.1
   go_wp2_with fail
   refine HWO.out.mono ?_
   rintro e w2 ⟨v2, rfl, ho, f2⟩
   obtain ⟨A2, c2, hv2, _, _⟩ := own_slice ho
   obtain ⟨L, hL⟩ : ∃ L, L = (cl.filter fun z => decide (z ≠ (n : Int))) := ⟨_, rfl⟩
   have hLl : L.length ≤ M := by rw [hL]; exact Nat.le_trans (List.length_filter_le _ _) HR0.out.2.2.2.2.2.2.1
   rw [← hL] at ho hv2
   obtain ⟨k2, hk2⟩ : ∃ k2, k2 = L.length := ⟨_, rfl⟩
   rw [← hk2] at ho hv2
   have hsl := slice_of_int (n : Int) w2
   have hcu : (w2.alloc (.cells #[.int .i64 (n : Int)] 3)).cell? ⟨w2.heap.size, 0, none⟩ = some (.int .i64 (n : Int)) := by
    rw [(Blk.new w2 3 #[.int .i64 (n : Int)]).cell]
    rfl
   have fa : Fr (fun _ => False) w2 (w2.alloc (.cells #[.int .i64 (n : Int)] 3)) := (Fr.refl _ w2).alloc _
   have ho' := own_keep ho fa (fun _ _ q => q)
   have F2 := f2.trans fa (fun _ _ q => q)
   have HA := Lib.hid (And.intro ho' (And.intro hcu (And.intro F2 (And.intro hk2 hLl))))
   clear hL ho hcu fa ho' F2 f2 hk2 hLl HWO
   subst hv2
   go_wp2_with (first
    | (at_builtin; refine wpList_push_int rfl (.tmp 18) (.tmp 20) rfl rfl HA.out.1 rfl HA.out.2.1 (by have := HA.out.2.2.2.1; have := HA.out.2.2.2.2; omega) HA.out.2.2.1.size ?_; intro v3 w3 ho3 hg3 hat3; have f3 := HA.out.2.2.1.grown hg3 (fun k hk => .inr (own_low HA.out.1 hk)); obtain ⟨A3, c3, hv3, _, _⟩ := own_slice ho3; have F3 := H1.out.1.trans f3 (fun _ _ q => q); have hb3 := HR0.out.1.keep F3 (fun q => q); have z3 := hb3.frozen 3; have x3 := (rp_cells hb3).2.2.2.1; have H3 := Lib.hid (And.intro ho3 (And.intro F3 (And.intro (H1.out.2.keep f3 (fun q => q)) (And.intro hb3 (fun b (hb : v3.ownBlock = some b) => own_low ho3 hb))))); clear ho3 hg3 hat3 f3 F3 hb3 k3; subst hv3))
   obtain ⟨k3, hk3⟩ : ∃ k3, k3 = k2 + 1 := ⟨_, rfl⟩
   rw [← hk3] at H3 ⊢
   have HK3 := Lib.hid hk3
   clear hk3
   obtain ⟨s4, f4⟩ := rp_set H3.out.2.2.2.1 3 (.slice A3 k3 c3)
   obtain ⟨w4, hw4⟩ : ∃ w4, w4 = w3.setCell ⟨r, 3, none⟩ (.slice A3 k3 c3) := ⟨_, rfl⟩
   rw [← hw4] at s4 f4 ⊢
   have s4' : RpB w4 r vp vc vd (.slice A3 k3 c3) fr z room := s4
   have fd : Fr (fun _ => False) w4 w4.drew := (Fr.refl (fun _ => False) w4).drew
   have hint : IntsN w3 (.slice A3 k3 c3) (L ++ [(n : Int)]) := intsN_len (m := k3) (by have := H3.out.1; rw [List.map_append]; exact this) (by rw [List.length_append, List.length_singleton, ← HA.out.2.2.2.1, HK3.out])
   have hne : ∀ b, (Value.slice A3 k3 c3).ownBlock = some b → b ≠ r := fun b hb => by have := H3.out.2.2.2.2 b hb; have := H1.out.1.size; have := H0.out.2.2; omega
   have hty : OT 3 w4.drew (.slice A3 k3 c3) := ((OT.own H3.out.1).keep f4 (fun b hb e => hne b hb e)).new fd
   have hne2 : ∀ b, (Value.slice A3 k3 c3).ownBlock = some b → b ≠ w.heap.size := fun b hb => by have := H3.out.2.2.2.2 b hb; have := H1.out.2.lt; omega
   have hint4 : IntsN w4.drew (.slice A3 k3 c3) (L ++ [(n : Int)]) := (hint.keep f4 (fun b hb e => hne b hb e)).keep fd (fun _ _ q => q)
   have F4 : Fr (fun b => b = r) w w4.drew := ((H3.out.2.1.mono (fun _ _ q => q.elim)).trans f4 (fun _ _ q => q)).trans fd (fun _ _ q => q.elim)
   have hpage : Blk w4.drew w.heap.size 50 (cellsB (nought 512)).toArray := (H3.out.2.2.1.keep f4 (fun e => by have := H0.out.2.2; omega)).keep fd (fun q => q)
   have s5 : RpB w4.drew r vp vc vd (.slice A3 k3 c3) fr z room := s4'.keep fd (fun q => q)
   have hlen : (L ++ [(n : Int)]).length = k3 := by rw [List.length_append, List.length_singleton, ← HA.out.2.2.2.1, HK3.out]
   have HC4 : Hid (w4.drew.cell? ⟨r, 3, none⟩ = some (.slice A3 k3 c3) ∧ w4.drew.cell? ⟨r, 4, none⟩ = some (.int .i64 fr)) := Lib.hid ⟨(rp_cells s5).2.2.2.1, (rp_cells s5).2.2.2.2.1⟩
   have HQ4 : Hid (AskQ w w4.drew r M fr z room vp vc vd (.slice A3 k3 c3) (L ++ [(n : Int)])) := Lib.hid ⟨s5, hint4, by rw [hlen, HK3.out]; have := HA.out.2.2.2.2; have := HA.out.2.2.2.1; omega, hty, F4, hpage, fun b hb _ => hne2 b hb⟩
   clear s4 f4 hw4 s4' fd hint hne hty hne2 hint4 F4 hpage s5
   by_cases hgt : (k3 : Int) > fr
   · (try simp only [Act.put, List.setIfInBounds_toArray, List.set_cons_zero, List.set_cons_succ])
     refine wp_region_held_drew (S := fun w' => w'.cell? ⟨r, 3, none⟩ = some (.slice A3 k3 c3) ∧ w'.cell? ⟨r, 4, none⟩ = some (.int .i64 fr)) (by kernel_rfl) HC4.out (fun hS0 => ?_)
     refine anyH_tk 0 24 (.pointer (some ⟨r, 0, none⟩)) rfl rfl (.inl ⟨by rfl, fun w'' hS => by go_simp⟩) hS0 ?_
     (simp only [sA, sB, sC])
     refine anyH_tk 1 25 (.pointer (some ⟨r, 0, none⟩)) rfl rfl (.inl ⟨by rfl, fun w'' hS => by go_simp⟩) hS0 ?_
     (simp only [sA, sB, sC])
     refine anyH_tk 2 26 (.pointer (some ⟨r, 3, none⟩)) rfl rfl (.inl ⟨by rfl, fun w'' hS => by go_simp⟩) hS0 ?_
     (simp only [sA, sB, sC])
     refine anyH_tk 3 27 (.slice A3 k3 c3) rfl rfl (.inl ⟨by rfl, fun w'' hS => by have q0 := hS.1; go_simp⟩) hS0 ?_
     (simp only [sA, sB, sC])
     refine anyH_tk 4 28 (.int .i64 (k3 : Nat)) rfl rfl (.inl ⟨by rfl, fun w'' hS => by go_simp⟩) hS0 ?_
     (simp only [sA, sB, sC])
     refine anyH_tk 5 29 (.pointer (some ⟨r, 0, none⟩)) rfl rfl (.inl ⟨by rfl, fun w'' hS => by go_simp⟩) hS0 ?_
     (simp only [sA, sB, sC])
     refine anyH_tk 6 30 (.pointer (some ⟨r, 0, none⟩)) rfl rfl (.inl ⟨by rfl, fun w'' hS => by go_simp⟩) hS0 ?_
     (simp only [sA, sB, sC])
     refine anyH_tk 7 31 (.pointer (some ⟨r, 4, none⟩)) rfl rfl (.inl ⟨by rfl, fun w'' hS => by go_simp⟩) hS0 ?_
     (simp only [sA, sB, sC])
     refine anyH_tk 8 32 (.int .i64 fr) rfl rfl (.inl ⟨by rfl, fun w'' hS => by have q0 := hS.2; go_simp⟩) hS0 ?_
     (simp only [sA, sB, sC])
     refine anyH_tk 9 33 (.bool true) rfl rfl (.inl ⟨by rfl, fun w'' hS => by go_simp⟩) hS0 ?_
     (simp only [sA, sB, sC])
     refine wpAnyH_done (by kernel_rfl) ?_ _
     clear hS0
     obtain ⟨V4, hs4, hi4, hb4⟩ := ints_from HQ4.out.2.1 (k := 1) (by rw [hlen]; omega)
     have hs4' : ∀ W, (Instr.slice 27 (.slice A3 k3 c3) (some (.int .i64 1)) none none).run Tryz.prog W = .ok V4 W := hs4
     obtain ⟨s6, f6⟩ := rp_set HQ4.out.1 3 V4
     have s6' : RpB (w4.drew.setCell ⟨r, 3, none⟩ V4) r vp vc vd V4 fr z room := s6
     have hne : ∀ b, V4.ownBlock = some b → b ≠ r := fun b hb => HQ4.out.2.2.2.1.i HQ4.out.1 b (hb4 b hb)
     have HQ : Hid (AskQ w (w4.drew.setCell ⟨r, 3, none⟩ V4) r M fr z room vp vc vd V4 ((L ++ [(n : Int)]).drop 1)) := Lib.hid ⟨s6', hi4.keep f6 (fun b hb e => hne b hb e), by rw [List.length_drop]; have := HQ4.out.2.2.1; omega, OT.keep (fun b hb => HQ4.out.2.2.2.1 b (hb4 b hb)) f6 (fun b hb e => hne b hb e), HQ4.out.2.2.2.2.1.trans f6 (fun _ _ q => q), HQ4.out.2.2.2.2.2.1.keep f6 (fun e => by have := H0.out.2.2; omega), fun b hb h0 => HQ4.out.2.2.2.2.2.2 b (hb4 b hb) (by rw [List.length_drop] at h0; omega)⟩
     obtain ⟨y0, y1, y2, y3, y4, y5, y6⟩ := rp_cells HQ4.out.1
     have z3' := HQ4.out.1.frozen 3
     obtain ⟨_, A4, c4, hV4, _, _⟩ := hi4
     obtain ⟨k4, hk4⟩ : ∃ k4, k4 = ((L ++ [(n : Int)]).drop 1).length := ⟨_, rfl⟩
     rw [← hk4] at hV4
     clear hk4
     subst hV4
     clear hs4 hb4 s6 f6 s6' hne HC4 hlen
     obtain ⟨pb, poff, pc, hpv, hprg, hpx⟩ := (HR0.out.2.1.keep HQ.out.2.2.2.2.1 (OT.p HR0.out.2.2.2.2.2.2.2.1 HR0.out.1)).at_ HN.out
     have hth := HQ.out.2.2.2.2.2.1.there (o := 0) (n := 512) (by simp [cellsB_len, nought_len])
     obtain ⟨q0, q1, q2, q3, q4, q5, q6⟩ := rp_cells HQ.out.1
     obtain ⟨L, hL⟩ : ∃ L, L = pg.length := ⟨_, rfl⟩
     have hnL : (n : Int) < (L : Int) := by have := (List.getElem?_eq_some_iff.1 HN.out).1; omega
     rw [hpv, ← hL] at q0
     rw [hpv, ← hL] at y0
     have y0x : w4.cell? ⟨r, 0, none⟩ = some (.slice (some ⟨pb, poff, none⟩) L pc) := y0
     have HX := Lib.hid (And.intro hprg (And.intro hpx hth))
     clear hprg hpx hth hpv hL
     go_wp2_with (first
      | (refine wpList_load_mid rfl 50 _ rfl pb (poff + n * 512) rfl (cellsB x) _ HX.out.1 Tryz.underlying50 rfl (by rw [infoPgS, cellsB_len, HX.out.2.1]) ?_)
      | (refine wpList_store_mid rfl 50 _ _ rfl w.heap.size 0 (cellsB x).toArray rfl rfl (by simp only [List.size_toArray, cellsB_len, HX.out.2.1]; exact HX.out.2.2) (by rw [infoPgS]; simp [cellsB_len, HX.out.2.1]) (all_oneCell_toArray (cellsB_one _)) ?_))
     refine bodyPost_ret (results_cell_row rfl _ _ w.heap.size 50 (cellsB x).toArray (0, 0) _ rfl ?_ Tryz.underlying50 rfl (by rw [infoPgS]; simp [cellsB_len, HX.out.2.1])) rfl ?_
     · have := HQ.out.2.2.2.2.2.1.over (o := 0) (m := x) (by rw [nought_len, HX.out.2.1]; omega)
       rw [patch_all (by rw [nought_len, HX.out.2.1])] at this
       exact this
     · exact ask_end HR0.out HQ.out
   · have hgt' : ¬ fr < (k3 : Int) := hgt
     (try simp only [Act.put, List.setIfInBounds_toArray, List.set_cons_zero, List.set_cons_succ])
     refine wp_region_held_drew (S := fun w' => w'.cell? ⟨r, 3, none⟩ = some (.slice A3 k3 c3) ∧ w'.cell? ⟨r, 4, none⟩ = some (.int .i64 fr)) (by kernel_rfl) HC4.out (fun hS0 => ?_)
     refine anyH_tk 0 24 (.pointer (some ⟨r, 0, none⟩)) rfl rfl (.inl ⟨by rfl, fun w'' hS => by go_simp⟩) hS0 ?_
     (simp only [sA, sB, sC])
     refine anyH_tk 1 25 (.pointer (some ⟨r, 0, none⟩)) rfl rfl (.inl ⟨by rfl, fun w'' hS => by go_simp⟩) hS0 ?_
     (simp only [sA, sB, sC])
     refine anyH_tk 2 26 (.pointer (some ⟨r, 3, none⟩)) rfl rfl (.inl ⟨by rfl, fun w'' hS => by go_simp⟩) hS0 ?_
     (simp only [sA, sB, sC])
     refine anyH_tk 3 27 (.slice A3 k3 c3) rfl rfl (.inl ⟨by rfl, fun w'' hS => by have q0 := hS.1; go_simp⟩) hS0 ?_
     (simp only [sA, sB, sC])
     refine anyH_tk 4 28 (.int .i64 (k3 : Nat)) rfl rfl (.inl ⟨by rfl, fun w'' hS => by go_simp⟩) hS0 ?_
     (simp only [sA, sB, sC])
     refine anyH_tk 5 29 (.pointer (some ⟨r, 0, none⟩)) rfl rfl (.inl ⟨by rfl, fun w'' hS => by go_simp⟩) hS0 ?_
     (simp only [sA, sB, sC])
     refine anyH_tk 6 30 (.pointer (some ⟨r, 0, none⟩)) rfl rfl (.inl ⟨by rfl, fun w'' hS => by go_simp⟩) hS0 ?_
     (simp only [sA, sB, sC])
     refine anyH_tk 7 31 (.pointer (some ⟨r, 4, none⟩)) rfl rfl (.inl ⟨by rfl, fun w'' hS => by go_simp⟩) hS0 ?_
     (simp only [sA, sB, sC])
     refine anyH_tk 8 32 (.int .i64 fr) rfl rfl (.inl ⟨by rfl, fun w'' hS => by have q0 := hS.2; go_simp⟩) hS0 ?_
     (simp only [sA, sB, sC])
     refine anyH_tk 9 33 (.bool false) rfl rfl (.inl ⟨by rfl, fun w'' hS => by go_simp⟩) hS0 ?_
     (simp only [sA, sB, sC])
     refine wpAnyH_done (by kernel_rfl) ?_ _
     clear hS0
     have HQ := HQ4
     obtain ⟨pb, poff, pc, hpv, hprg, hpx⟩ := (HR0.out.2.1.keep HQ.out.2.2.2.2.1 (OT.p HR0.out.2.2.2.2.2.2.2.1 HR0.out.1)).at_ HN.out
     have hth := HQ.out.2.2.2.2.2.1.there (o := 0) (n := 512) (by simp [cellsB_len, nought_len])
     obtain ⟨q0, q1, q2, q3, q4, q5, q6⟩ := rp_cells HQ.out.1
     obtain ⟨L, hL⟩ : ∃ L, L = pg.length := ⟨_, rfl⟩
     have hnL : (n : Int) < (L : Int) := by have := (List.getElem?_eq_some_iff.1 HN.out).1; omega
     rw [hpv, ← hL] at q0
     have HX := Lib.hid (And.intro hprg (And.intro hpx hth))
     clear hprg hpx hth hpv hL
     go_wp2_with (first
      | (refine wpList_load_mid rfl 50 _ rfl pb (poff + n * 512) rfl (cellsB x) _ HX.out.1 Tryz.underlying50 rfl (by rw [infoPgS, cellsB_len, HX.out.2.1]) ?_)
      | (refine wpList_store_mid rfl 50 _ _ rfl w.heap.size 0 (cellsB x).toArray rfl rfl (by simp only [List.size_toArray, cellsB_len, HX.out.2.1]; exact HX.out.2.2) (by rw [infoPgS]; simp [cellsB_len, HX.out.2.1]) (all_oneCell_toArray (cellsB_one _)) ?_))
     refine bodyPost_ret (results_cell_row rfl _ _ w.heap.size 50 (cellsB x).toArray (0, 0) _ rfl ?_ Tryz.underlying50 rfl (by rw [infoPgS]; simp [cellsB_len, HX.out.2.1])) rfl ?_
     · have := HQ.out.2.2.2.2.2.1.over (o := 0) (m := x) (by rw [nought_len, HX.out.2.1]; omega)
       rw [patch_all (by rw [nought_len, HX.out.2.1])] at this
       exact this
     · exact ask_end HR0.out HQ.out
end
end Go.Proofs.YtcnlgbjkjlbmbaaGreat

