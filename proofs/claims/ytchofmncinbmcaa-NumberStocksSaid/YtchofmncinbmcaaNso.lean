/- The law NumberStocks. -/
import Derived.Test.YtchofmncinbmcaaNal
import Derived.LoopN
import Derived.Shelf.Abstract
namespace Go.Proofs.Ytchofmncinbmcaa
open Go.RowKit
attribute [local go_sem] Oper.semAt_some

/-- The law's own blocks: the stock, how many to go over, what is told. -/
structure SM (w X : World) (c f k lv : Int) (b : Bool) : Prop where
  s : Blk X w.heap.size 43 #[.int .i64 c, .int .i64 f, .int .i64 k]
  l : Blk X (w.heap.size + 1) 3 #[.int .i64 lv]
  r : Blk X (w.heap.size + 1 + 1) 4 #[.bool b]
  fr : Fr (fun _ => False) w X
  sz : w.heap.size + 3 ≤ X.heap.size
theorem SM.keep {w X Y : World} {c f k lv : Int} {b : Bool} (h : SM w X c f k lv b) {F : Nat → Prop} (g : Fr F X Y) (hF : ∀ j, j < w.heap.size + 3 → ¬ F j) : SM w Y c f k lv b :=
  ⟨h.s.keep g (hF _ (by omega)), h.l.keep g (hF _ (by omega)), h.r.keep g (hF _ (by omega)), h.fr.trans g (fun i hi q => absurd q (hF i (by omega))), Nat.le_trans h.sz g.size⟩
theorem SM.keep0 {w X Y : World} {c f k lv : Int} {b : Bool} (h : SM w X c f k lv b) (g : Fr (fun _ => False) X Y) : SM w Y c f k lv b := h.keep g (fun _ _ q => q)
theorem SM.own {w X Y : World} {c f k lv : Int} {b : Bool} {B : Nat} {row : Option Nat} (h : SM w X c f k lv b) (hB : w.heap.size ≤ B) (hg : X.grownBy Y row) (hr : ∀ r, row = some r → B ≤ r ∧ ∃ o : Obj, X.heap[r]? = some o ∧ o.isCells = false) : SM w Y c f k lv b :=
  ⟨blk_own h.s hg hr, blk_own h.l hg hr, blk_own h.r hg hr, fr_own h.fr hB hg hr, Nat.le_trans h.sz hg.size⟩
theorem SM.range {w X : World} {c f k lv : Int} {b : Bool} (h : SM w X c f k lv b) : X.rangeAt w.heap.size 0 [.int .i64 c, .int .i64 f, .int .i64 k] := fun i u hi => by rw [h.s.cell, Nat.zero_add]; simpa using hi
theorem SM.cells {w X : World} {c f k lv : Int} {b : Bool} (h : SM w X c f k lv b) : X.cell? ⟨w.heap.size, 0, none⟩ = some (.int .i64 c) ∧ X.cell? ⟨w.heap.size, 1, none⟩ = some (.int .i64 f) ∧ X.cell? ⟨w.heap.size, 2, none⟩ = some (.int .i64 k) ∧
    X.cell? ⟨w.heap.size + 1, 0, none⟩ = some (.int .i64 lv) ∧ X.cell? ⟨w.heap.size + 1 + 1, 0, none⟩ = some (.bool b) ∧ X.frozen? ⟨w.heap.size + 1, 0, none⟩ = false ∧ X.frozen? ⟨w.heap.size + 1 + 1, 0, none⟩ = false :=
  ⟨by rw [h.s.cell]; rfl, by rw [h.s.cell]; rfl, by rw [h.s.cell]; rfl, by rw [h.l.cell]; rfl, by rw [h.r.cell]; rfl, h.l.frozen 0, h.r.frozen 0⟩
theorem SM.start (w : World) (c f k lv : Int) : SM w (((w.alloc (.cells #[.int .i64 c, .int .i64 f, .int .i64 k] 43)).alloc (.cells #[.int .i64 lv] 3)).alloc (.cells #[.bool false] 4)) c f k lv false := by
  have k : ∀ {W : World} {g : Nat} {t : TypeId} {cs : Array Value} (o : Obj), Blk W g t cs → Blk (W.alloc o) g t cs := fun o h => h.keep (F := fun _ => False) ((Fr.refl _ _).alloc o) (fun q => q)
  have n : ∀ (W : World) (t : TypeId) (C : Array Value) (g : Nat), W.heap.size = g → Blk (W.alloc (.cells C t)) g t C := fun W t C g e => e ▸ Blk.new W t C
  exact ⟨k _ (k _ (n _ _ _ _ rfl)), k _ (n _ _ _ _ (by simp)), n _ _ _ _ (by simp), (((Fr.refl _ w).alloc _).alloc _).alloc _, by simp⟩
set_option maxRecDepth 100000 in
theorem results_so {tmps : Array Value} {w : World} {g : Nat} {u : Value} (h : tmps.getD 8 undef = .pointer (some ⟨g, 0, none⟩)) (b : Blk w g 4 #[u]) : (results Try.f6 tmps).run Try.prog w = .ok u w := by
  have c := b.cell 0
  simp at c
  have h' : tmps[8]?.getD undef = .pointer (some ⟨g, 0, none⟩) := by simpa using h
  have e : (loadVar 4 ⟨g, 0, none⟩).run Try.prog w = .ok u w := by go_simp
  simp [results, Try.f6, h', asAddr, e]
theorem SM.told {w X : World} {c f k lv : Int} {b : Bool} (h : SM w X c f k lv b) : SM w (X.setCell ⟨w.heap.size + 1 + 1, 0, none⟩ (.bool true)) c f k lv true := by
  have g : Fr (fun j => j = w.heap.size + 1 + 1) X (X.setCell ⟨w.heap.size + 1 + 1, 0, none⟩ (.bool true)) := (Fr.refl (fun j => j = w.heap.size + 1 + 1) X).setCell (p := ⟨w.heap.size + 1 + 1, 0, none⟩) (.inl rfl) _
  exact ⟨h.s.keep g (by omega), h.l.keep g (by omega), h.r.set_ 0 _, h.fr.trans g (fun i hi q => by omega), Nat.le_trans h.sz g.size⟩
theorem fn_nil (b : Nat) (W : World) : (binOp .eql 48 (.func (.func 39) #[] #[.pointer (some ⟨b, 0, none⟩)]) .nilFunc).run Try.prog W = .ok (.bool false) W := by
  have h : ∀ d : Nat, (Op.equalIn (d + 1) 48 (.func (.func 39) #[] #[.pointer (some ⟨b, 0, none⟩)]) .nilFunc).run Try.prog W = .ok false W := fun d => by
    simp [Op.equalIn, run_underlying Try.underlying48]
  simp only [binOp]
  simp [Op.equal, Op.maxDepth, h 9999]
set_option maxRecDepth 100000 in
set_option maxHeartbeats 4000000 in
theorem nstocks_no (c f k i lv : Int) (n : Nat) (hn : n < 18446744073709551616) (hr : InR f k) (hm : mayS c f k = false) (w : World) : Calls Try.prog 6 #[stV c f k, .int .i64 i, .int .u64 n, .int .i64 lv] w fun e w' => e = .returned (.bool true) ∧ Fr (fun _ => False) w w' := by
  have HM := Lib.hid (fun W => rmays_any c f k W)
  have HMS := Lib.hid (fun W => nmayst_any c f k hr W)
  have HN := Lib.hid (fun W => nnth_any c f k i hr W)
  have HI := Lib.hid (fun W => nin_any c f k n W hr hn)
  have HRI := Lib.hid (fun W => rin_any c f k n hn W)
  have HA := Lib.hid (fun W => nall_any c f k W)
  have HK := Lib.hid (fun W => nknown numP W)
  have HST := Lib.hid (SM.start w c f k lv)
  rw [hm] at HM HMS
  obtain ⟨bn, hbn⟩ : ∃ bn, bn = inS c f k n := ⟨_, rfl⟩
  rw [← hbn] at HI HRI
  have HBB : Hid ((bn != bn) = false) := Lib.hid (by cases bn <;> rfl)
  clear hbn
  have hne : nthE c f k i = 2 := by unfold nthE; rw [hm]; rfl
  have hnn : nthN c f k i = 0 := by unfold nthN; rw [hne]; rfl
  rw [hne, hnn] at HN
  have HCN : Hid (cntS c f k = 0) := Lib.hid (by unfold cntS; rw [hm]; rfl)
  have HRR := Lib.hid hr
  clear hm hne hnn hr hn
  refine callsIn_wide (n := 10).1 ?_
  refine callsIn_of_wp_marks Try.func6 rfl trivial ?_ rfl
  simp only [Try.ntmps6, List.size_toArray, List.length_cons, List.length_nil, Nat.reduceAdd, Nat.reduceSub, Array.replicate_succ, Array.replicate_zero, List.push_toArray, List.append_toArray, List.nil_append, List.cons_append]
  refine wpIn_wide.2 ?_
  go_upto_region 1 with fail
  obtain ⟨W0, hW0⟩ : ∃ W0, W0 = ((w.alloc (.cells #[.int .i64 c, .int .i64 f, .int .i64 k] 43)).alloc (.cells #[.int .i64 lv] 3)).alloc (.cells #[.bool false] 4) := ⟨_, rfl⟩
  rw [← hW0] at HST ⊢
  clear hW0
  have hr0 := HST.out.range
  go_wp2_with (refine wpList_load_mid rfl 43 _ rfl w.heap.size 0 rfl [.int .i64 c, .int .i64 f, .int .i64 k] _ hr0 Try.underlying43 rfl (by kernel_rfl) ?_)
  refine (HM.out _).mono ?_
  rintro e W1 ⟨rfl, f1⟩
  have HS1 := Lib.hid (HST.out.keep0 f1)
  clear f1 hr0 HST HM
  have hr0 := HS1.out.range
  go_wp2_with (refine wpList_load_mid rfl 43 _ rfl w.heap.size 0 rfl [.int .i64 c, .int .i64 f, .int .i64 k] _ hr0 Try.underlying43 rfl (by kernel_rfl) ?_)
  refine (HN.out _).mono ?_
  rintro e W2 ⟨rfl, f2⟩
  have HS := Lib.hid (HS1.out.keep0 f2)
  clear f2 hr0 HS1 HN
  go_upto_region 3 with fail
  refine wp_region_noPanic ?_
  refine wp_region_held_drew (S := fun w' => Fr (fun _ => False) W2 w') (by kernel_rfl) ((Fr.refl _ W2).drew) (fun hS0 => ?_)
  refine anyH_take 0 29 (.agg #[.int .i64 c, .int .i64 f, .int .i64 k]) rfl rfl (by kernel_rfl) (by kernel_rfl) (by kernel_rfl) (fun _ _ _ h => h) (.inl ⟨by rfl, fun w'' hS => by have q0 := (SM.cells (HS.out.keep0 hS)).1; have q1 := (SM.cells (HS.out.keep0 hS)).2.1; have q2 := (SM.cells (HS.out.keep0 hS)).2.2.1; go_simp⟩) hS0 ?_
  (simp only [List.setIfInBounds_toArray, List.set_cons_zero, List.set_cons_succ])
  refine anyH_take 2 31 (.bool false) rfl rfl (by kernel_rfl) (by kernel_rfl) (by kernel_rfl) (fun _ _ _ h => h) (.inl ⟨by rfl, fun w'' hS => by go_simp⟩) hS0 ?_
  (simp only [List.setIfInBounds_toArray, List.set_cons_zero, List.set_cons_succ])
  refine anyH_one 1 30 (.bool false) (by kernel_rfl) (tame_call 30 rfl rfl (by rfl) (fun w'' hS => by go_simp) (fun w'' hS => ((HMS.out _).mono fun e w3 he => ⟨he.1, hS.trans he.2 (fun _ _ q => q)⟩))) hS0 (fun w31 hS0 => ?_)
  (simp only [List.setIfInBounds_toArray, List.set_cons_zero, List.set_cons_succ])
  refine anyH_take 3 32 (.bool false) rfl rfl (by kernel_rfl) (by kernel_rfl) (by kernel_rfl) (fun _ _ _ h => h) (.inl ⟨by rfl, fun w'' hS => by go_simp⟩) hS0 ?_
  (simp only [List.setIfInBounds_toArray, List.set_cons_zero, List.set_cons_succ])
  refine anyH_take 4 33 (.bool false) rfl rfl (by kernel_rfl) (by kernel_rfl) (by kernel_rfl) (fun _ _ _ h => h) (.inl ⟨by rfl, fun w'' hS => by go_simp⟩) hS0 ?_
  (simp only [List.setIfInBounds_toArray, List.set_cons_zero, List.set_cons_succ])
  refine anyH_take 5 34 (.agg #[.int .i64 c, .int .i64 f, .int .i64 k]) rfl rfl (by kernel_rfl) (by kernel_rfl) (by kernel_rfl) (fun _ _ _ h => h) (.inl ⟨by rfl, fun w'' hS => by have q0 := (SM.cells (HS.out.keep0 hS)).1; have q1 := (SM.cells (HS.out.keep0 hS)).2.1; have q2 := (SM.cells (HS.out.keep0 hS)).2.2.1; go_simp⟩) hS0 ?_
  (simp only [List.setIfInBounds_toArray, List.set_cons_zero, List.set_cons_succ])
  refine anyH_take 6 35 (.int .u64 (n : Nat)) rfl rfl (by kernel_rfl) (by kernel_rfl) (by kernel_rfl) (fun _ _ _ h => h) (.inl ⟨by rfl, fun w'' hS => by go_simp⟩) hS0 ?_
  (simp only [List.setIfInBounds_toArray, List.set_cons_zero, List.set_cons_succ])
  refine anyH_take 8 37 (.agg #[.int .i64 c, .int .i64 f, .int .i64 k]) rfl rfl (by kernel_rfl) (by kernel_rfl) (by kernel_rfl) (fun _ _ _ h => h) (.inl ⟨by rfl, fun w'' hS => by have q0 := (SM.cells (HS.out.keep0 hS)).1; have q1 := (SM.cells (HS.out.keep0 hS)).2.1; have q2 := (SM.cells (HS.out.keep0 hS)).2.2.1; go_simp⟩) hS0 ?_
  (simp only [List.setIfInBounds_toArray, List.set_cons_zero, List.set_cons_succ])
  refine anyH_take 9 38 (.int .u64 (n : Nat)) rfl rfl (by kernel_rfl) (by kernel_rfl) (by kernel_rfl) (fun _ _ _ h => h) (.inl ⟨by rfl, fun w'' hS => by go_simp⟩) hS0 ?_
  (simp only [List.setIfInBounds_toArray, List.set_cons_zero, List.set_cons_succ])
  refine anyH_one 7 36 (.bool bn) (by kernel_rfl) (tame_call 36 rfl rfl (by rfl) (fun w'' hS => by go_simp) (fun w'' hS => ((HI.out _).mono fun e w3 he => ⟨he.1, hS.trans he.2 (fun _ _ q => q)⟩))) hS0 (fun w32 hS0 => ?_)
  (simp only [List.setIfInBounds_toArray, List.set_cons_zero, List.set_cons_succ])
  refine anyH_one 10 39 (.bool bn) (by kernel_rfl) (tame_call 39 rfl rfl (by rfl) (fun w'' hS => by go_simp) (fun w'' hS => ((HRI.out _).mono fun e w3 he => ⟨he.1, hS.trans he.2 (fun _ _ q => q)⟩))) hS0 (fun w33 hS0 => ?_)
  (simp only [List.setIfInBounds_toArray, List.set_cons_zero, List.set_cons_succ])
  refine anyH_take 11 40 (.bool false) rfl rfl (by kernel_rfl) (by kernel_rfl) (by kernel_rfl) (fun _ _ _ h => h) (.inl ⟨by rfl, fun w'' hS => by have q0 := HBB.out; go_simp⟩) hS0 ?_
  (simp only [List.setIfInBounds_toArray, List.set_cons_zero, List.set_cons_succ])
  refine anyH_take 12 41 (.bool false) rfl rfl (by kernel_rfl) (by kernel_rfl) (by kernel_rfl) (fun _ _ _ h => h) (.inl ⟨by rfl, fun w'' hS => by go_simp⟩) hS0 ?_
  (simp only [List.setIfInBounds_toArray, List.set_cons_zero, List.set_cons_succ])
  refine wpAnyH_done (by kernel_rfl) ?_ _
  refine NoPanic.normal ?_
  have HS3 := Lib.hid (HS.out.keep0 hS0)
  clear hS0
  clear hS0
  clear hS0
  have hr0 := HS3.out.range
  go_wp2_with (refine wpList_load_mid rfl 43 _ rfl w.heap.size 0 rfl [.int .i64 c, .int .i64 f, .int .i64 k] _ hr0 Try.underlying43 rfl (by kernel_rfl) ?_)
  refine (HA.out _).mono ?_
  rintro e W4 ⟨rfl, hW4⟩
  have hb4 : Blk W4 w33.heap.size 43 #[.int .i64 c, .int .i64 f, .int .i64 k] := by rw [hW4]; exact Blk.new _ _ _
  have f4 : Fr (fun _ => False) w33 W4 := by rw [hW4]; exact (Fr.refl _ w33).alloc _
  have hz4 : w33.heap.size + 1 ≤ W4.heap.size := by rw [hW4]; simp
  have HS4 := Lib.hid (HS3.out.keep0 f4)
  have HB4 := Lib.hid hb4
  have hz3 := HS3.out.sz
  clear hW4 f4 hb4 hr0 HA HMS HI HRI HBB
  have hfn := fn_nil w33.heap.size W4
  go_wp2_with fail
  have HSQ := Lib.hid (all_stops (fun j => W4.heap.size ≤ j) w33.heap.size c f k HRR.out W4 (by omega) HB4.out)
  clear hfn hz3
  refine (wpIn_wide (n := 10)).1 ?_
  refine wpIn_rangeFunc_ownH rfl (by omega) (gf := 39) (lb := #[.pointer (some ⟨w33.heap.size, 0, none⟩)]) rfl trivial (enters_of Try.func39 (by kernel_rfl) rfl) HSQ.out (fun h k => h.trans k (fun _ _ q => q)) (fun W0 l o o' hl ho _ _ => frB (fun _ q => q) W0 l o o' hl ho) (Below.refl _ _) (fun _ => rfl)
    (fun pre X => SM w X c f k lv false)
    (fun _ _ _ => False)
    (fun s X Y row hs hg hr' => hs.own (Nat.le_trans HS4.out.fr.size (Nat.le_refl _)) hg hr')
    (fun c' s X Y row hs hg hr' => hs.elim)
    HS4.out
    (fun x a' X => True)
    (fun x a' _ X Y row hs hg hr' => trivial)
    ?assign ?body ?done ?stop
  case assign => exact fun l pre x X K hI hK => by gi_wp2; exact hK _ _ (KeepsFrom.refl _ _) (Fr.refl _ _) hI trivial
  case body =>
    intro l pre x a' X hl _ hI _ hlt
    rw [HCN.out] at hlt
    exact absurd hlt (Nat.not_lt_zero _)
  case stop => exact fun D c' pre X hD _ h => h.elim
  case done =>
    rintro D xs X hD rfl hI hK
    have HI := Lib.hid (And.intro hI hK)
    obtain ⟨_, _, _, _, _, _, hfz⟩ := hI.cells
    clear hI hK
    go_wp2_with fail
    refine (HK.out _).mono ?_
    rintro e Y ⟨rfl, fY⟩
    have HY := Lib.hid (And.intro (HI.out.1.keep0 fY) fY)
    obtain ⟨_, _, _, _, _, _, hfy⟩ := HY.out.1.cells
    clear fY hfz
    go_wp2_with fail
    have hZ := HY.out.1.told
    have hK1 := ((HY.out.2.others).same D _ HI.out.2 rfl)
    have hK2 := ((KeepsOthers.setCell Y ⟨w.heap.size + 1 + 1, 0, none⟩ (.bool true)).same D _ hK1 rfl)
    obtain ⟨z1, z2, _⟩ := fin_put hK2 hD HS4.out.fr.size hZ.fr
    refine ⟨by simp, .inl ⟨_, _, rfl, run_takeDeferred hK2, ?_⟩⟩
    exact ⟨_, results_so rfl (z2 hZ.r), rfl, z1⟩

/-- A range over a function that may be left: the round's act is the loop's own, but for what g says. -/
theorem range_leave {F : Fence} {n : Nat} {P : Program} {α : Type} {g : Operand} {ps : Array Tmp} {assign body : Code} {Q : Exit → Act → World → Prop} {a : Act} {w : World}
    (hro : F.round = none) (h1 : 1 ≤ n) {gf : Nat} {lb : Array Value} (hg : a.eval g = .func (.func gf) #[] lb) (hFg : F.fn gf) (eg : ∀ args w, (callFunc gf args).run P w = .ok (.enter gf args) w)
    {encs : α → Array Value} {Fp : Nat → Prop} {S Sp : List α → Prop} {N : Nat} (hseq : SeqStopsK F (n - 1) P gf lb encs (Fr Fp) S Sp N w) (hFp : ∀ j, w.heap.size ≤ j → Fp j) (hps : ∀ x, (encs x).size = ps.size)
    (I : List α → World → Prop) (Ix : Code → List α → World → Prop) (hI : OwnFrom w.heap.size I) (hIx : ∀ c, OwnFrom w.heap.size (Ix c)) (h0 : I [] w) (q : α → Array Value → Array Value)
    (hassign : ∀ (l : Nat) (x : α) (W : World) (K : Act → World → Prop), K { tmps := q x a.tmps, defers := [] } W →
      assign.wpIn (F.inRound l) (n - 1 - 1) P (Exit.then K (fun _ _ _ => False)) { tmps := (ps.zip (encs x)).foldl (fun t (p, v) => t.setIfInBounds p v) a.tmps, defers := [] } W)
    (hbody : ∀ (l : Nat) (pre : List α) (x : α) (W : World), I pre W → pre.length < N → body.wpIn (F.inRound l) (n - 1 - 1) P (ownPostG w.heap.size (Fr Fp) I Ix (pre ++ [x]) W) { tmps := q x a.tmps, defers := [] } W)
    (hdone : ∀ (D : Nat) (xs : List α) (W : World), w.heap.size ≤ D → S xs → I xs W → W.heap[D]? = some (.deferred (some [])) → Q .normal { a with defers := { target := .collected D, args := #[] } :: a.defers } W)
    (hstop : ∀ (D : Nat) (c : Code) (pre : List α) (W : World), w.heap.size ≤ D → Sp pre → Ix c pre W → W.heap[D]? = some (.deferred (some [])) → c.wpIn F n P Q { a with defers := { target := .collected D, args := #[] } :: a.defers } W) :
    (Code.rangeFunc g ps assign body).wpIn F n P Q a w :=
  wpIn_rangeFunc_ownH hro h1 hg hFg eg hseq (fun h k => h.trans k (fun _ _ q => q)) (fun W0 l o o' hl ho _ _ => frB hFp W0 l o o' hl ho) (Below.refl _ _) hps I Ix hI hIx h0
    (fun x a' _ => a' = { tmps := q x a.tmps, defers := [] }) (fun _ _ _ _ _ _ hs _ _ => hs)
    (fun l pre x W K hi hK => hassign l x W K (hK _ _ (KeepsFrom.refl _ _) (Fr.refl _ _) hi rfl))
    (fun l pre x a' W _ _ hi e hlt => by subst e; exact hbody l pre x W hi hlt) hdone hstop
theorem nth_makes {c f k i : Int} (h : mayS c f k = true) (h0 : 0 ≤ i) (h1 : i < k) : mayCS c (f + i) = true ∧ inS c f k (makeN c (f + i)) = true ∧ makeN c (f + i) < 18446744073709551616 := by
  have hn : nthE c f k i = 0 := by unfold nthE; rw [if_pos h, if_pos ⟨h0, h1⟩]
  have hcs := (nth_may hn).2.2.2
  refine ⟨hcs, ?_⟩
  unfold makeN
  rw [if_pos hcs]
  unfold mayCS at hcs
  rw [decide_eq_true_eq] at hcs
  have hp := mkN_parts (c := c.toNat) (s := (f + i).toNat) (by omega) (by omega) (by omega)
  have hl := mkN_lt (c := c.toNat) (s := (f + i).toNat) (by omega) (by omega) (by omega)
  unfold inS
  rw [h, hp.2.1, hp.2.2, Bool.true_and, decide_eq_true_eq]
  omega
end Go.Proofs.Ytchofmncinbmcaa
