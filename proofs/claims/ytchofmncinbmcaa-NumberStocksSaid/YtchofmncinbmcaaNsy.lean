/- The law NumberStocks, of a stock that may be. -/
import Derived.Test.YtchofmncinbmcaaNso
import Derived.Deep.CutBlock
namespace Go.Proofs.Ytchofmncinbmcaa
open Go.RowKit
attribute [local go_sem] Oper.semAt_some

theorem SM.left {w X : World} {c f k lv : Int} {b : Bool} (h : SM w X c f k lv b) : SM w (X.setCell ⟨w.heap.size + 1, 0, none⟩ (.int .i64 300)) c f k 300 b := by
  have g : Fr (fun j => j = w.heap.size + 1) X (X.setCell ⟨w.heap.size + 1, 0, none⟩ (.int .i64 300)) := (Fr.refl (fun j => j = w.heap.size + 1) X).setCell (p := ⟨w.heap.size + 1, 0, none⟩) (.inl rfl) _
  exact ⟨h.s.keep g (by omega), h.l.set_ 0 _, h.r.keep g (by omega), h.fr.trans g (fun i hi q => by omega), Nat.le_trans h.sz g.size⟩
/-- What stands between the rounds: the law's own blocks, the iterator's stock, the marks of the ranges that are over. -/
structure TM (w V : World) (c f k L : Int) (B : Nat) (ds : List Nat) : Prop where
  sm : SM w V c f k L false
  st : Blk V B 43 #[.int .i64 c, .int .i64 f, .int .i64 k]
  lo : w.heap.size + 3 ≤ B
  dd : ∀ D ∈ ds, V.heap[D]? = some (.deferred (some []))
theorem TM.keep0 {w V Y : World} {c f k L : Int} {B : Nat} {ds : List Nat} (h : TM w V c f k L B ds) (g : Fr (fun _ => False) V Y) : TM w Y c f k L B ds :=
  ⟨h.sm.keep0 g, h.st.keep g (fun q => q), h.lo, fun D hD => (g.block D (Array.getElem?_eq_some_iff.1 (h.dd D hD)).1 (fun q => q)).trans (h.dd D hD)⟩
theorem TM.put {w V : World} {c f k L : Int} {B : Nat} {ds : List Nat} (h : TM w V c f k L B ds) {g : Nat} {t : TypeId} {cs : Array Value} (hg : Blk V g t cs) (h1 : w.heap.size + 3 ≤ g) (h2 : B ≠ g) (v : Value) : TM w (V.setCell ⟨g, 0, none⟩ v) c f k L B ds := by
  have q : Fr (fun j => j = g) V (V.setCell ⟨g, 0, none⟩ v) := (Fr.refl (fun j => j = g) V).setCell (p := ⟨g, 0, none⟩) (.inl rfl) _
  refine ⟨h.sm.keep q (by omega), h.st.keep q h2, h.lo, fun D hD => (q.block D (Array.getElem?_eq_some_iff.1 (h.dd D hD)).1 (fun e => ?_)).trans (h.dd D hD)⟩
  have := h.dd D hD
  rw [e] at this
  unfold Blk at hg
  rw [hg] at this
  cases this
theorem TM.own {w V Y : World} {c f k L : Int} {B Bd : Nat} {ds : List Nat} {row : Option Nat} (h : TM w V c f k L B ds) (hB : w.heap.size ≤ Bd) (hd : ∀ D ∈ ds, D < Bd) (hg : V.grownBy Y row) (hr : ∀ r, row = some r → Bd ≤ r ∧ ∃ o : Obj, V.heap[r]? = some o ∧ o.isCells = false) : TM w Y c f k L B ds :=
  ⟨h.sm.own hB hg hr, blk_own h.st hg hr, h.lo, fun D hD => (hg.block D (Array.getElem?_eq_some_iff.1 (h.dd D hD)).1 (fun e => by have := (hr D e.symm).1; have := hd D hD; omega)).trans (h.dd D hD)⟩
theorem TM.add {w V : World} {c f k L : Int} {B D : Nat} {ds : List Nat} (h : TM w V c f k L B ds) (hD : V.heap[D]? = some (.deferred (some []))) : TM w V c f k L B (D :: ds) :=
  ⟨h.sm, h.st, h.lo, fun j hj => by
    rcases List.mem_cons.1 hj with rfl | q
    · exact hD
    · exact h.dd j q⟩
theorem Blk.box {V : World} {g : Nat} {v : Value} {t : TypeId} (h : Blk V g t #[v]) : V.cell? ⟨g, 0, none⟩ = some v ∧ V.frozen? ⟨g, 0, none⟩ = false := ⟨by rw [h.cell]; rfl, h.frozen 0⟩
theorem range_last {j : Nat} {p : List Nat} {x : Nat} (h : List.range j = p ++ [x]) : x = p.length := by
  have hl := congrArg List.length h
  rw [List.length_range, List.length_append] at hl
  have h2 := congrArg (fun l => l[p.length]?) h
  simp at h2 hl
  rw [List.getElem?_eq_getElem (by simp; omega)] at h2
  simp at h2
  exact h2.symm
theorem block_cut {P : Program} {id : Nat} {code : Code} {a : Act} {w : World} {Q : Exit → Act → World → Prop} {R : Nat → World → Prop}
    (h : (Code.block id code).wp P (fun e a' Y => e = .normal ∧ ∃ D, a' = { a with defers := { target := .collected D, args := #[] } :: a.defers } ∧ R D Y) a w)
    (hk : ∀ D Y, R D Y → Q .normal { a with defers := { target := .collected D, args := #[] } :: a.defers } Y) : (Code.block id code).wp P Q a w :=
  Code.wp_mono (fun e a' Y => by rintro ⟨rfl, D, rfl, hR⟩; exact hk D Y hR) h
set_option maxRecDepth 100000 in
set_option maxHeartbeats 8000000 in
theorem nstocks_yes (c f k i lv : Int) (n : Nat) (hn : n < 18446744073709551616) (hr : InR f k) (hm : mayS c f k = true) (w : World) : Calls Try.prog 6 #[stV c f k, .int .i64 i, .int .u64 n, .int .i64 lv] w fun e w' => e = .returned (.bool true) ∧ Fr (fun _ => False) w w' := by
  have HM := Lib.hid (fun W => rmays_any c f k W)
  have HMS := Lib.hid (fun W => nmayst_any c f k hr W)
  have HN := Lib.hid (fun W => nnth_any c f k i hr W)
  have HI := Lib.hid (fun W => nin_any c f k n W hr hn)
  have HRI := Lib.hid (fun W => rin_any c f k n hn W)
  have HA := Lib.hid (fun W => nall_any c f k W)
  have HK := Lib.hid (fun W => nknown numP W)
  have HST := Lib.hid (SM.start w c f k lv)
  rw [hm] at HM HMS
  obtain ⟨bn, hbn⟩ : ∃ bn, bn = inS c f k n := ⟨_, rfl⟩
  rw [← hbn] at HI HRI
  have HBB : Hid ((bn != bn) = false) := Lib.hid (by cases bn <;> rfl)
  clear hbn
  have hkm : 1 ≤ k ∧ f + k ≤ 1000000000 ∧ 0 ≤ f ∧ f ≤ 999999999 := by
    unfold mayS at hm
    rw [decide_eq_true_eq] at hm
    omega
  obtain ⟨e0, he0⟩ : ∃ e0, e0 = nthE c f k i := ⟨_, rfl⟩
  obtain ⟨x, hx⟩ : ∃ x, x = nthN c f k i := ⟨_, rfl⟩
  have HIN : Hid (0 ≤ i → i < k → e0 = 0 ∧ x = makeN c (f + i) ∧ mayCS c (f + i) = true ∧ ∀ W, Calls Try.prog 25 #[stV c f k, .int .u64 x] W fun e w' => e = .returned (.bool true) ∧ Fr (fun _ => False) W w') := Lib.hid (fun h0 h1 => by
    have hne : nthE c f k i = 0 := by unfold nthE; rw [if_pos hm, if_pos ⟨h0, h1⟩]
    have hnn : nthN c f k i = makeN c (f + i) := by unfold nthN; rw [if_pos hne]
    obtain ⟨hcs, hin, hxb⟩ := nth_makes hm h0 h1
    refine ⟨by rw [he0, hne], by rw [hx, hnn], hcs, fun W => ?_⟩
    have q := nin_any c f k x W hr (by rw [hx, hnn]; exact hxb)
    rw [hx, hnn, hin] at q
    rw [hx, hnn]
    exact q)
  have HOUT : Hid (¬ (0 ≤ i ∧ i < k) → e0 = 12 ∧ x = 0) := Lib.hid (fun h => by
    have hne : nthE c f k i = 12 := by unfold nthE; rw [if_pos hm, if_neg h]
    refine ⟨by rw [he0, hne], ?_⟩
    rw [hx]
    unfold nthN
    rw [hne]
    rfl)
  rw [← he0, ← hx] at HN
  have HCN : Hid (cntS c f k = k.toNat) := Lib.hid (by unfold cntS; rw [if_pos hm])
  have HMM : Hid (∀ z : Nat, z < k.toNat → mayCS c (f + z) = true) := Lib.hid (fun z hz => (nth_makes hm (i := z) (by omega) (by omega)).1)
  have HRR := Lib.hid (And.intro hr hkm)
  clear hm he0 hx hr hn
  refine callsIn_wide (n := 10).1 ?_
  refine callsIn_of_wp_marks Try.func6 rfl trivial ?_ rfl
  simp only [Try.ntmps6, List.size_toArray, List.length_cons, List.length_nil, Nat.reduceAdd, Nat.reduceSub, Array.replicate_succ, Array.replicate_zero, List.push_toArray, List.append_toArray, List.nil_append, List.cons_append]
  refine wpIn_wide.2 ?_
  go_upto_region 1 with fail
  obtain ⟨W0, hW0⟩ : ∃ W0, W0 = ((w.alloc (.cells #[.int .i64 c, .int .i64 f, .int .i64 k] 43)).alloc (.cells #[.int .i64 lv] 3)).alloc (.cells #[.bool false] 4) := ⟨_, rfl⟩
  rw [← hW0] at HST ⊢
  clear hW0
  have hr0 := HST.out.range
  go_wp2_with (refine wpList_load_mid rfl 43 _ rfl w.heap.size 0 rfl [.int .i64 c, .int .i64 f, .int .i64 k] _ hr0 Try.underlying43 rfl (by kernel_rfl) ?_)
  refine (HM.out _).mono ?_
  rintro e W1 ⟨rfl, f1⟩
  have HS1 := Lib.hid (HST.out.keep0 f1)
  clear f1 hr0 HST HM
  have hr0 := HS1.out.range
  go_wp2_with (refine wpList_load_mid rfl 43 _ rfl w.heap.size 0 rfl [.int .i64 c, .int .i64 f, .int .i64 k] _ hr0 Try.underlying43 rfl (by kernel_rfl) ?_)
  refine (HN.out _).mono ?_
  rintro e W2 ⟨rfl, f2⟩
  have HS := Lib.hid (HS1.out.keep0 f2)
  clear f2 hr0 HS1 HN
  go_upto_region 3 with fail
  refine wp_region_noPanic ?_
  refine wp_region_held_drew (S := fun w' => Fr (fun _ => False) W2 w') (by kernel_rfl) ((Fr.refl _ W2).drew) (fun hS0 => ?_)
  refine anyH_take 0 29 (.agg #[.int .i64 c, .int .i64 f, .int .i64 k]) rfl rfl (by kernel_rfl) (by kernel_rfl) (by kernel_rfl) (fun _ _ _ h => h) (.inl ⟨by rfl, fun w'' hS => by have q0 := (SM.cells (HS.out.keep0 hS)).1; have q1 := (SM.cells (HS.out.keep0 hS)).2.1; have q2 := (SM.cells (HS.out.keep0 hS)).2.2.1; go_simp⟩) hS0 ?_
  (simp only [List.setIfInBounds_toArray, List.set_cons_zero, List.set_cons_succ])
  refine anyH_take 2 31 (.bool true) rfl rfl (by kernel_rfl) (by kernel_rfl) (by kernel_rfl) (fun _ _ _ h => h) (.inl ⟨by rfl, fun w'' hS => by go_simp⟩) hS0 ?_
  (simp only [List.setIfInBounds_toArray, List.set_cons_zero, List.set_cons_succ])
  refine anyH_one 1 30 (.bool true) (by kernel_rfl) (tame_call 30 rfl rfl (by rfl) (fun w'' hS => by go_simp) (fun w'' hS => ((HMS.out _).mono fun e w3 he => ⟨he.1, hS.trans he.2 (fun _ _ q => q)⟩))) hS0 (fun w31 hS0 => ?_)
  (simp only [List.setIfInBounds_toArray, List.set_cons_zero, List.set_cons_succ])
  refine anyH_take 3 32 (.bool false) rfl rfl (by kernel_rfl) (by kernel_rfl) (by kernel_rfl) (fun _ _ _ h => h) (.inl ⟨by rfl, fun w'' hS => by go_simp⟩) hS0 ?_
  (simp only [List.setIfInBounds_toArray, List.set_cons_zero, List.set_cons_succ])
  refine anyH_take 4 33 (.bool false) rfl rfl (by kernel_rfl) (by kernel_rfl) (by kernel_rfl) (fun _ _ _ h => h) (.inl ⟨by rfl, fun w'' hS => by go_simp⟩) hS0 ?_
  (simp only [List.setIfInBounds_toArray, List.set_cons_zero, List.set_cons_succ])
  refine anyH_take 5 34 (.agg #[.int .i64 c, .int .i64 f, .int .i64 k]) rfl rfl (by kernel_rfl) (by kernel_rfl) (by kernel_rfl) (fun _ _ _ h => h) (.inl ⟨by rfl, fun w'' hS => by have q0 := (SM.cells (HS.out.keep0 hS)).1; have q1 := (SM.cells (HS.out.keep0 hS)).2.1; have q2 := (SM.cells (HS.out.keep0 hS)).2.2.1; go_simp⟩) hS0 ?_
  (simp only [List.setIfInBounds_toArray, List.set_cons_zero, List.set_cons_succ])
  refine anyH_take 6 35 (.int .u64 (n : Nat)) rfl rfl (by kernel_rfl) (by kernel_rfl) (by kernel_rfl) (fun _ _ _ h => h) (.inl ⟨by rfl, fun w'' hS => by go_simp⟩) hS0 ?_
  (simp only [List.setIfInBounds_toArray, List.set_cons_zero, List.set_cons_succ])
  refine anyH_take 8 37 (.agg #[.int .i64 c, .int .i64 f, .int .i64 k]) rfl rfl (by kernel_rfl) (by kernel_rfl) (by kernel_rfl) (fun _ _ _ h => h) (.inl ⟨by rfl, fun w'' hS => by have q0 := (SM.cells (HS.out.keep0 hS)).1; have q1 := (SM.cells (HS.out.keep0 hS)).2.1; have q2 := (SM.cells (HS.out.keep0 hS)).2.2.1; go_simp⟩) hS0 ?_
  (simp only [List.setIfInBounds_toArray, List.set_cons_zero, List.set_cons_succ])
  refine anyH_take 9 38 (.int .u64 (n : Nat)) rfl rfl (by kernel_rfl) (by kernel_rfl) (by kernel_rfl) (fun _ _ _ h => h) (.inl ⟨by rfl, fun w'' hS => by go_simp⟩) hS0 ?_
  (simp only [List.setIfInBounds_toArray, List.set_cons_zero, List.set_cons_succ])
  refine anyH_one 7 36 (.bool bn) (by kernel_rfl) (tame_call 36 rfl rfl (by rfl) (fun w'' hS => by go_simp) (fun w'' hS => ((HI.out _).mono fun e w3 he => ⟨he.1, hS.trans he.2 (fun _ _ q => q)⟩))) hS0 (fun w32 hS0 => ?_)
  (simp only [List.setIfInBounds_toArray, List.set_cons_zero, List.set_cons_succ])
  refine anyH_one 10 39 (.bool bn) (by kernel_rfl) (tame_call 39 rfl rfl (by rfl) (fun w'' hS => by go_simp) (fun w'' hS => ((HRI.out _).mono fun e w3 he => ⟨he.1, hS.trans he.2 (fun _ _ q => q)⟩))) hS0 (fun w33 hS0 => ?_)
  (simp only [List.setIfInBounds_toArray, List.set_cons_zero, List.set_cons_succ])
  refine anyH_take 11 40 (.bool false) rfl rfl (by kernel_rfl) (by kernel_rfl) (by kernel_rfl) (fun _ _ _ h => h) (.inl ⟨by rfl, fun w'' hS => by have q0 := HBB.out; go_simp⟩) hS0 ?_
  (simp only [List.setIfInBounds_toArray, List.set_cons_zero, List.set_cons_succ])
  refine anyH_take 12 41 (.bool false) rfl rfl (by kernel_rfl) (by kernel_rfl) (by kernel_rfl) (fun _ _ _ h => h) (.inl ⟨by rfl, fun w'' hS => by go_simp⟩) hS0 ?_
  (simp only [List.setIfInBounds_toArray, List.set_cons_zero, List.set_cons_succ])
  refine wpAnyH_done (by kernel_rfl) ?_ _
  refine NoPanic.normal ?_
  have HS3 := Lib.hid (HS.out.keep0 hS0)
  clear hS0
  clear hS0
  clear hS0
  have hr0 := HS3.out.range
  go_wp2_with (refine wpList_load_mid rfl 43 _ rfl w.heap.size 0 rfl [.int .i64 c, .int .i64 f, .int .i64 k] _ hr0 Try.underlying43 rfl (by kernel_rfl) ?_)
  refine (HA.out _).mono ?_
  rintro e W4 ⟨rfl, hW4⟩
  have hb4 : Blk W4 w33.heap.size 43 #[.int .i64 c, .int .i64 f, .int .i64 k] := by rw [hW4]; exact Blk.new _ _ _
  have f4 : Fr (fun _ => False) w33 W4 := by rw [hW4]; exact (Fr.refl _ w33).alloc _
  have HS4 := Lib.hid (HS3.out.keep0 f4)
  have HB4 := Lib.hid hb4
  have hz3 := HS3.out.sz
  have hfn := fn_nil w33.heap.size W4
  clear hW4 f4 hb4 hr0 HA HMS HI HRI HBB
  go_upto_region 12 with fail
  clear hfn
  go_cut [67] from 60 to 67 (fun s67 wx => s67 = .bool (decide (i < 0 ∨ k ≤ i)) ∧ W4 = wx)
  case first =>
    obtain ⟨_, _, c2, _, _, _, _⟩ := HS4.out.cells
    rcases (show i < 0 ∨ (0 ≤ i ∧ k ≤ i) ∨ (0 ≤ i ∧ i < k) by omega) with hlv | hlv | hlv
    · go_wp2_with fail
      go_meet
      case rel => exact ⟨by rw [decide_eq_true (show i < 0 ∨ k ≤ i by omega)], rfl⟩
    · obtain ⟨l1, l2⟩ := hlv
      go_wp2_with fail
      go_meet
      case rel => exact ⟨by rw [decide_eq_true (show i < 0 ∨ k ≤ i by omega)], rfl⟩
    · obtain ⟨l1, l2⟩ := hlv
      go_wp2_with fail
      go_meet
      case rel => exact ⟨by rw [decide_eq_false (show ¬ (i < 0 ∨ k ≤ i) by omega), decide_eq_false (show ¬ i < 0 by omega), decide_eq_false (show ¬ k ≤ i by omega)]; rfl, rfl⟩
  obtain ⟨rfl, rfl⟩ := hcut
  go_upto_if 67 with (fail)
  go_cut [13, 14, 67] from 67 to 96 (fun s13 s14 s67 wx => Hid (SM w wx c f k lv false) ∧ Hid (Blk wx w33.heap.size 43 #[.int .i64 c, .int .i64 f, .int .i64 k]))
  case first =>
    obtain ⟨c0, c1, _, _, _, _, _⟩ := HS4.out.cells
    by_cases hin : i < 0 ∨ k ≤ i
    · rw [decide_eq_true hin]
      obtain ⟨rfl, rfl⟩ := HOUT.out (by omega)
      clear hin
      go_wp2_with fail
      go_meet
      case rel => exact ⟨HS4, HB4⟩
    · rw [decide_eq_false hin]
      obtain ⟨rfl, hx, hcs, hix⟩ := HIN.out (by omega) (by omega)
      have HRM := Lib.hid (fun W => rmake_any c (f + i) W)
      rw [hcs, ← hx] at HRM
      have HIX := Lib.hid hix
      obtain ⟨h5, h6⟩ : f + i ≤ 1000000000 ∧ 0 ≤ f + i := by omega
      have w1 : IntKind.i64.wrap (f + i) = f + i := by simp [IntKind.wrap, IntKind.signed, IntKind.bits]; omega
      have w2 : wrap64 (f + i) = f + i := by unfold wrap64; omega
      clear hx hcs hix hin
      go_wp2_with fail
      refine (HRM.out _).mono ?_
      rintro e W5 ⟨rfl, f5⟩
      have HS5 := Lib.hid (HS4.out.keep0 f5)
      have HB5 := Lib.hid (HB4.out.keep f5 (fun q => q))
      clear f5 HRM w1 w2 h5 h6 c0 c1
      have hr0 := HS5.out.range
      go_wp2_with (first | (refine wpList_load_mid rfl 43 _ rfl w.heap.size 0 rfl [.int .i64 c, .int .i64 f, .int .i64 k] _ hr0 Try.underlying43 rfl (by kernel_rfl) ?_) | (refine wpList_load_want (by rfl) 43 _ rfl w.heap.size 0 rfl [.int .i64 c, .int .i64 f, .int .i64 k] _ hr0 Try.underlying43 rfl (by kernel_rfl) ?_))
      refine (HIX.out _).mono ?_
      rintro e W6 ⟨rfl, f6⟩
      have HS6 := Lib.hid (HS5.out.keep0 f6)
      have HB6 := Lib.hid (HB5.out.keep f6 (fun q => q))
      clear f6 hr0 HIX
      go_wp2_with fail
      go_meet
      case rel => exact ⟨HS6, HB6⟩
  obtain ⟨HS6, HB6⟩ := hcut
  generalize wc = W6 at *
  clear HIN HOUT HS4 HB4 HS HS3
  go_upto_region 18 with fail
  go_cut [102] from 97 to 102 (fun s102 wx => s102 = .bool (decide (lv < 1 ∨ 300 < lv)) ∧ W6 = wx)
  case first =>
    obtain ⟨_, _, _, c3, _, z3, _⟩ := HS6.out.cells
    rcases (show lv < 1 ∨ (1 ≤ lv ∧ 300 < lv) ∨ (1 ≤ lv ∧ lv ≤ 300) by omega) with hlv | hlv | hlv
    · go_wp2_with fail
      go_meet
      case rel => exact ⟨by rw [decide_eq_true (show lv < 1 ∨ 300 < lv by omega)], rfl⟩
    · obtain ⟨l1, l2⟩ := hlv
      go_wp2_with fail
      go_meet
      case rel => exact ⟨by rw [decide_eq_true (show lv < 1 ∨ 300 < lv by omega)], rfl⟩
    · obtain ⟨l1, l2⟩ := hlv
      go_wp2_with fail
      go_meet
      case rel => exact ⟨by rw [decide_eq_false (show ¬ (lv < 1 ∨ 300 < lv) by omega), decide_eq_false (show ¬ lv < 1 by omega), decide_eq_false (show ¬ 300 < lv by omega)]; rfl, rfl⟩
  obtain ⟨rfl, rfl⟩ := hcut
  go_upto_if 102 with (fail)
  go_cut [102] from 102 to 102 (fun s102 wx => ∃ L : Int, Hid (1 ≤ L ∧ L ≤ 300) ∧ Hid (TM w wx c f k L w33.heap.size []))
  case first =>
    obtain ⟨_, _, _, c3, _, z3, _⟩ := HS6.out.cells
    by_cases hlv : lv < 1 ∨ 300 < lv
    · rw [decide_eq_true hlv]
      have HX := Lib.hid HS6.out.left
      have HBX := Lib.hid (HB6.out.keep ((Fr.refl (fun j => j = w.heap.size + 1) W6).setCell (p := ⟨w.heap.size + 1, 0, none⟩) (.inl rfl) (.int .i64 300)) (by omega))
      go_wp2_with fail
      go_meet
      case rel => exact ⟨300, Lib.hid (by omega), Lib.hid ⟨HX.out, HBX.out, by omega, fun D hD => by cases hD⟩⟩
    · rw [decide_eq_false hlv]
      go_wp2_with fail
      go_meet
      case rel => exact ⟨lv, Lib.hid (by omega), Lib.hid ⟨HS6.out, HB6.out, by omega, fun D hD => by cases hD⟩⟩
  obtain ⟨L, HL, HT⟩ := hcut
  generalize wc = X at *
  clear HS6 HB6
  obtain ⟨B, hB⟩ : ∃ B, B = w33.heap.size := ⟨_, rfl⟩
  rw [← hB] at HT ⊢
  clear hB hz3
  have HT0 := HT
  clear HT
  go_wp2_with fail
  refine wp_loop_rounds 3 ?_
  rw [rounds_succ]
  go_upto_block 4 with fail
  obtain ⟨KB0, hKB0⟩ : ∃ KB, KB = X.heap.size := ⟨_, rfl⟩
  obtain ⟨V0, hV0⟩ : ∃ V, V = X.alloc (.cells #[.int .i64 0] 3) := ⟨_, rfl⟩
  have hbk0 : Blk V0 KB0 3 #[.int .i64 0] := by rw [hV0, hKB0]; exact Blk.new _ _ _
  have hvs0 : V0.heap.size = KB0 + 1 := by rw [hV0, hKB0]; simp
  have HTV0 : Hid (TM w V0 c f k L B []) := Lib.hid (by rw [hV0]; exact HT0.out.keep0 ((Fr.refl _ _).alloc _))
  have hkb0 : B < KB0 := by rw [hKB0]; exact HT0.out.st.lt
  have hlo0 : w.heap.size + 3 ≤ B := HT0.out.lo
  have HBK0 := Lib.hid hbk0
  have HDS0 : Hid (∀ D ∈ [], D < V0.heap.size) := Lib.hid (fun D hD => (Array.getElem?_eq_some_iff.1 (HTV0.out.dd D hD)).1)
  have HVS0 := Lib.hid hvs0
  have HSQ0 := Lib.hid (all_stops (fun j => j = KB0 ∨ V0.heap.size ≤ j) B c f k HRR.out.1 V0 (by omega) HTV0.out.st)
  rw [← hV0, ← hKB0]
  clear hV0 hKB0 hbk0 hvs0
  refine block_cut (R := fun D Y => V0.heap.size ≤ D ∧ ∃ z : Nat, Hid (TM w Y c f k L B (D :: [])) ∧ Hid (Blk Y KB0 3 #[.int .i64 (z : Nat)]) ∧ ((z : Int) = L ∨ ((z : Int) ≠ L ∧ (z : Int) = k))) ?h0_1 ?k0_1
  case h0_1 =>
    go_wp2_with fail
    refine (wpIn_wide (n := 10)).1 ?_
    refine range_leave rfl (by omega) (gf := 39) (lb := #[.pointer (some ⟨B, 0, none⟩)]) rfl trivial (enters_of Try.func39 (by kernel_rfl) rfl) HSQ0.out (fun _ q => .inr q) (fun _ => rfl)
      (fun pre Y => TM w Y c f k L B [] ∧ Blk Y KB0 3 #[.int .i64 (pre.length : Nat)] ∧ pre = List.range pre.length ∧ (pre.length : Int) < L)
      (fun c' pre Y => ∃ pre' x', pre = pre' ++ [x'] ∧ pre' = List.range pre'.length ∧ ((c' = .ret ∧ x' ≠ pre'.length) ∨ (c' = .exit 4 ∧ x' = pre'.length ∧ TM w Y c f k L B [] ∧ Blk Y KB0 3 #[.int .i64 ((pre'.length + 1 : Nat) : Int)] ∧ ((pre'.length + 1 : Nat) : Int) = L)))
      (fun s X Y row hs hg hr' => ⟨hs.1.own (Nat.le_trans HTV0.out.sm.fr.size (Nat.le_refl _)) HDS0.out hg hr', blk_own hs.2.1 hg hr', hs.2.2⟩)
      (fun c' s X Y row hs hg hr' => by
        obtain ⟨pre', x', e1, e2, q | ⟨q1, q2, q3, q4, q5⟩⟩ := hs
        · exact ⟨pre', x', e1, e2, .inl q⟩
        · exact ⟨pre', x', e1, e2, .inr ⟨q1, q2, q3.own (Nat.le_trans HTV0.out.sm.fr.size (Nat.le_refl _)) HDS0.out hg hr', blk_own q4 hg hr', q5⟩⟩)
      ⟨HTV0.out, HBK0.out, rfl, by have := HL.out; simp; omega⟩
      (fun x' T => (((T.setIfInBounds 108 (.int .i64 (x' : Nat))).setIfInBounds 109 (.int .u64 (makeN c (f + x') : Nat))).setIfInBounds 17 (.int .i64 (x' : Nat))).setIfInBounds 18 (.int .u64 (makeN c (f + x') : Nat)))
      ?assign0_1 ?body0_1 ?done0_1 ?stop0_1
    case assign0_1 =>
      intro l x' Y K hK
      simp only [encN, List.zip_toArray, List.zip_cons_cons, List.zip_nil_right, List.foldl_toArray, List.foldl_cons, List.foldl_nil, List.setIfInBounds_toArray, List.set_cons_succ, List.set_cons_zero] at hK ⊢
      gi_wp2
      exact hK
    case done0_1 =>
      rintro D xs Y hD rfl ⟨hT, hb, hp, hL⟩ hK
      rw [List.length_range] at hb hL
      refine ⟨rfl, D, rfl, hD, cntS c f k, Lib.hid (hT.add hK), Lib.hid hb, .inr ⟨by omega, ?_⟩⟩
      rw [HCN.out]
      omega
    case stop0_1 =>
      rintro D c' pre Y hD ⟨j, hj, hpre⟩ ⟨pre', x', e1, e2, ⟨q1, q2⟩ | ⟨rfl, q2, q3, q4, q5⟩⟩ hK
      · exact absurd (range_last (hpre.symm.trans e1)) q2
      · have HQ := Lib.hid (And.intro (q3.add hK) (And.intro q4 q5))
        clear hpre e1 e2 q2 q3 q4 q5 hK hj
        gi_wp2
        exact ⟨Lib.hid HQ.out.1, pre'.length + 1, Lib.hid HQ.out.2.1, .inl HQ.out.2.2⟩
    case body0_1 =>
      rintro l pre x' Y ⟨hT, hb, hp, hL⟩ hlt
      simp only [List.setIfInBounds_toArray, List.set_cons_succ, List.set_cons_zero]
      obtain ⟨z, hz⟩ : ∃ z, z = pre.length := ⟨_, rfl⟩
      rw [← hz] at hb hL hlt
      rw [HCN.out] at hlt
      have HI := Lib.hid (And.intro hT (And.intro hb hp))
      have HRM := Lib.hid (rmake_any c (f + (z : Int)) Y)
      rw [HMM.out z hlt] at HRM
      have h5 : f + (z : Int) ≤ 1000000000 := by omega
      have h6 : 0 ≤ f + (z : Int) := by omega
      have w1 : IntKind.i64.wrap (f + (z : Int)) = f + (z : Int) := by simp [IntKind.wrap, IntKind.signed, IntKind.bits]; omega
      have w2 : wrap64 (f + (z : Int)) = f + (z : Int) := by unfold wrap64; omega
      have hz9 : (z : Int) ≤ 1000000000 := by omega
      have HZ := Lib.hid (And.intro hz (And.intro hL hlt))
      obtain ⟨c0, c1, _, _, _, _, _⟩ := hT.sm.cells
      obtain ⟨ck, _⟩ := hb.box
      by_cases hx : x' = z
      · subst hx
        obtain ⟨y, hy⟩ : ∃ y, y = makeN c (f + (x' : Int)) := ⟨_, rfl⟩
        rw [← hy] at HRM ⊢
        clear hz hT hb hp hL hlt hy
        gi_wp2
        refine ⟨trivial, (CallsIn.inRound l (callsIn_wide.2 HRM.out)).mono ?_⟩
        rintro e Y2 ⟨rfl, fY⟩
        have HI2 := Lib.hid (And.intro (HI.out.1.keep0 fY) (And.intro (HI.out.2.1.keep fY (fun q => q)) fY))
        clear fY c0 c1 ck h5 h6 w1 w2
        obtain ⟨ck, zk⟩ := HI2.out.2.1.box
        have hT3 := HI2.out.1.put HI2.out.2.1 (by omega) (by omega) (.int .i64 ((x' : Int) + 1))
        have hb3 : Blk (Y2.setCell ⟨KB0, 0, none⟩ (.int .i64 ((x' : Int) + 1))) KB0 3 #[.int .i64 ((x' : Int) + 1)] := HI2.out.2.1.set_ 0 _
        obtain ⟨_, _, _, c3, _, _, _⟩ := hT3.sm.cells
        obtain ⟨ck3, _⟩ := hb3.box
        have HI3 := Lib.hid (And.intro hT3 hb3)
        clear hT3 hb3
        have hK3 : KeepsFrom V0.heap.size Y (Y2.setCell ⟨KB0, 0, none⟩ (.int .i64 ((x' : Int) + 1))) := ((Fr.others HI2.out.2.2).trans (KeepsOthers.setCell _ _ _)).from _
        have hF3 : Fr (fun j => j = KB0 ∨ V0.heap.size ≤ j) Y (Y2.setCell ⟨KB0, 0, none⟩ (.int .i64 ((x' : Int) + 1))) := (HI2.out.2.2.mono (fun _ _ q => q.elim)).setCell (p := ⟨KB0, 0, none⟩) (.inl (.inl rfl)) _
        have HK3 := Lib.hid (And.intro hK3 hF3)
        clear hK3 hF3
        have hcast : ((x' + 1 : Nat) : Int) = (x' : Int) + 1 := by omega
        by_cases hzL : (x' : Int) + 1 = L
        · have hbe : ((x' : Int) + 1 == L) = true := by rw [beq_iff_eq]; exact hzL
          have HL3 := Lib.hid (And.intro hzL hcast)
          clear hzL hcast
          gi_wp2
          refine ⟨HK3.out.1, pre, x', rfl, by rw [← HZ.out.1]; rw [HZ.out.1]; exact HI.out.2.2, .inr ⟨rfl, HZ.out.1, HI3.out.1, ?_, ?_⟩⟩
          · rw [← HZ.out.1, HL3.out.2]
            exact HI3.out.2
          · rw [← HZ.out.1, HL3.out.2]
            exact HL3.out.1
        · have hbe : ((x' : Int) + 1 == L) = false := by rw [beq_eq_false_iff_ne]; exact hzL
          have HL3 := Lib.hid (And.intro hzL hcast)
          clear hzL hcast
          gi_wp2
          refine ⟨HK3.out.1, HK3.out.2, HI3.out.1, ?_, ?_, ?_⟩
          · rw [List.length_append, ← HZ.out.1]
            show Blk _ _ _ #[.int .i64 ((x' + 1 : Nat) : Int)]
            rw [HL3.out.2]
            exact HI3.out.2
          · have hp := HI.out.2.2
            rw [List.length_append, ← HZ.out.1]
            rw [← HZ.out.1] at hp
            show pre ++ [x'] = List.range (x' + 1)
            rw [List.range_succ, ← hp]
          · rw [List.length_append, ← HZ.out.1]
            show ((x' + 1 : Nat) : Int) < L
            have := HZ.out.2.1
            have := HL3.out.1
            omega
      · have hbne : ((x' : Int) != (z : Int)) = true := by rw [bne_iff_ne]; omega
        have HXZ := Lib.hid (And.intro hx hz)
        clear hz hT hb hp hL hlt hx
        obtain ⟨y, hy⟩ : ∃ y, y = makeN c (f + (z : Int)) := ⟨_, rfl⟩
        obtain ⟨y', hy'⟩ : ∃ y', y' = makeN c (f + (x' : Int)) := ⟨_, rfl⟩
        rw [← hy] at HRM
        rw [← hy']
        clear hy hy'
        gi_wp2
        refine ⟨trivial, (CallsIn.inRound l (callsIn_wide.2 HRM.out)).mono ?_⟩
        rintro e Y2 ⟨rfl, fY⟩
        have HI2 := Lib.hid (And.intro (HI.out.1.keep0 fY) (And.intro (HI.out.2.1.keep fY (fun q => q)) fY))
        clear fY c0 c1 ck h5 h6 w1 w2
        obtain ⟨ck, zk⟩ := HI2.out.2.1.box
        obtain ⟨_, _, _, _, c4, _, z4⟩ := HI2.out.1.sm.cells
        have HK3 : Hid (KeepsFrom V0.heap.size Y (Y2.setCell ⟨w.heap.size + 1 + 1, 0, none⟩ (.bool false))) := Lib.hid (((Fr.others HI2.out.2.2).trans (KeepsOthers.setCell _ _ _)).from _)
        gi_wp2
        exact ⟨HK3.out, pre, x', rfl, HI.out.2.2, .inl ⟨rfl, by rw [← HXZ.out.2]; exact HXZ.out.1⟩⟩
  rintro D0 Y0 ⟨hD0, z, HT1, HBz, hz⟩
  clear HBK0 HDS0 HSQ0
  have HDV0 : Hid (V0.heap.size ≤ D0) := Lib.hid hD0
  clear hD0
  obtain ⟨_, _, c2, c3, _, _, _⟩ := HT1.out.sm.cells
  obtain ⟨ck, _⟩ := HBz.out.box
  rcases hz with hz | ⟨hz1, hz2⟩
  · have hb1 : ((z : Int) != L) = false := by rw [bne_eq_false_iff_eq]; exact hz
    clear hz
    go_wp2_with fail
    rw [rounds_succ]
    go_upto_block 4 with fail
    obtain ⟨KB1, hKB1⟩ : ∃ KB, KB = Y0.heap.size := ⟨_, rfl⟩
    obtain ⟨V1, hV1⟩ : ∃ V, V = Y0.alloc (.cells #[.int .i64 0] 3) := ⟨_, rfl⟩
    have hbk1 : Blk V1 KB1 3 #[.int .i64 0] := by rw [hV1, hKB1]; exact Blk.new _ _ _
    have hvs1 : V1.heap.size = KB1 + 1 := by rw [hV1, hKB1]; simp
    have HTV1 : Hid (TM w V1 c f k L B [D0]) := Lib.hid (by rw [hV1]; exact HT1.out.keep0 ((Fr.refl _ _).alloc _))
    have hkb1 : B < KB1 := by rw [hKB1]; exact HT1.out.st.lt
    have hlo1 : w.heap.size + 3 ≤ B := HT1.out.lo
    have HBK1 := Lib.hid hbk1
    have HDS1 : Hid (∀ D ∈ [D0], D < V1.heap.size) := Lib.hid (fun D hD => (Array.getElem?_eq_some_iff.1 (HTV1.out.dd D hD)).1)
    have HVS1 := Lib.hid hvs1
    have HSQ1 := Lib.hid (all_stops (fun j => j = KB1 ∨ V1.heap.size ≤ j) B c f k HRR.out.1 V1 (by omega) HTV1.out.st)
    rw [← hV1, ← hKB1]
    clear hV1 hKB1 hbk1 hvs1
    refine block_cut (R := fun D Y => V1.heap.size ≤ D ∧ ∃ z : Nat, Hid (TM w Y c f k L B (D :: [D0])) ∧ Hid (Blk Y KB1 3 #[.int .i64 (z : Nat)]) ∧ ((z : Int) = L ∨ ((z : Int) ≠ L ∧ (z : Int) = k))) ?h1_2 ?k1_2
    case h1_2 =>
      go_wp2_with fail
      refine (wpIn_wide (n := 10)).1 ?_
      refine range_leave rfl (by omega) (gf := 39) (lb := #[.pointer (some ⟨B, 0, none⟩)]) rfl trivial (enters_of Try.func39 (by kernel_rfl) rfl) HSQ1.out (fun _ q => .inr q) (fun _ => rfl)
        (fun pre Y => TM w Y c f k L B [D0] ∧ Blk Y KB1 3 #[.int .i64 (pre.length : Nat)] ∧ pre = List.range pre.length ∧ (pre.length : Int) < L)
        (fun c' pre Y => ∃ pre' x', pre = pre' ++ [x'] ∧ pre' = List.range pre'.length ∧ ((c' = .ret ∧ x' ≠ pre'.length) ∨ (c' = .exit 4 ∧ x' = pre'.length ∧ TM w Y c f k L B [D0] ∧ Blk Y KB1 3 #[.int .i64 ((pre'.length + 1 : Nat) : Int)] ∧ ((pre'.length + 1 : Nat) : Int) = L)))
        (fun s X Y row hs hg hr' => ⟨hs.1.own (Nat.le_trans HTV1.out.sm.fr.size (Nat.le_refl _)) HDS1.out hg hr', blk_own hs.2.1 hg hr', hs.2.2⟩)
        (fun c' s X Y row hs hg hr' => by
          obtain ⟨pre', x', e1, e2, q | ⟨q1, q2, q3, q4, q5⟩⟩ := hs
          · exact ⟨pre', x', e1, e2, .inl q⟩
          · exact ⟨pre', x', e1, e2, .inr ⟨q1, q2, q3.own (Nat.le_trans HTV1.out.sm.fr.size (Nat.le_refl _)) HDS1.out hg hr', blk_own q4 hg hr', q5⟩⟩)
        ⟨HTV1.out, HBK1.out, rfl, by have := HL.out; simp; omega⟩
        (fun x' T => (((T.setIfInBounds 108 (.int .i64 (x' : Nat))).setIfInBounds 109 (.int .u64 (makeN c (f + x') : Nat))).setIfInBounds 17 (.int .i64 (x' : Nat))).setIfInBounds 18 (.int .u64 (makeN c (f + x') : Nat)))
        ?assign1_2 ?body1_2 ?done1_2 ?stop1_2
      case assign1_2 =>
        intro l x' Y K hK
        simp only [encN, List.zip_toArray, List.zip_cons_cons, List.zip_nil_right, List.foldl_toArray, List.foldl_cons, List.foldl_nil, List.setIfInBounds_toArray, List.set_cons_succ, List.set_cons_zero] at hK ⊢
        gi_wp2
        exact hK
      case done1_2 =>
        rintro D xs Y hD rfl ⟨hT, hb, hp, hL⟩ hK
        rw [List.length_range] at hb hL
        refine ⟨rfl, D, rfl, hD, cntS c f k, Lib.hid (hT.add hK), Lib.hid hb, .inr ⟨by omega, ?_⟩⟩
        rw [HCN.out]
        omega
      case stop1_2 =>
        rintro D c' pre Y hD ⟨j, hj, hpre⟩ ⟨pre', x', e1, e2, ⟨q1, q2⟩ | ⟨rfl, q2, q3, q4, q5⟩⟩ hK
        · exact absurd (range_last (hpre.symm.trans e1)) q2
        · have HQ := Lib.hid (And.intro (q3.add hK) (And.intro q4 q5))
          clear hpre e1 e2 q2 q3 q4 q5 hK hj
          gi_wp2
          exact ⟨Lib.hid HQ.out.1, pre'.length + 1, Lib.hid HQ.out.2.1, .inl HQ.out.2.2⟩
      case body1_2 =>
        rintro l pre x' Y ⟨hT, hb, hp, hL⟩ hlt
        simp only [List.setIfInBounds_toArray, List.set_cons_succ, List.set_cons_zero]
        obtain ⟨z, hz⟩ : ∃ z, z = pre.length := ⟨_, rfl⟩
        rw [← hz] at hb hL hlt
        rw [HCN.out] at hlt
        have HI := Lib.hid (And.intro hT (And.intro hb hp))
        have HRM := Lib.hid (rmake_any c (f + (z : Int)) Y)
        rw [HMM.out z hlt] at HRM
        have h5 : f + (z : Int) ≤ 1000000000 := by omega
        have h6 : 0 ≤ f + (z : Int) := by omega
        have w1 : IntKind.i64.wrap (f + (z : Int)) = f + (z : Int) := by simp [IntKind.wrap, IntKind.signed, IntKind.bits]; omega
        have w2 : wrap64 (f + (z : Int)) = f + (z : Int) := by unfold wrap64; omega
        have hz9 : (z : Int) ≤ 1000000000 := by omega
        have HZ := Lib.hid (And.intro hz (And.intro hL hlt))
        obtain ⟨c0, c1, _, _, _, _, _⟩ := hT.sm.cells
        obtain ⟨ck, _⟩ := hb.box
        by_cases hx : x' = z
        · subst hx
          obtain ⟨y, hy⟩ : ∃ y, y = makeN c (f + (x' : Int)) := ⟨_, rfl⟩
          rw [← hy] at HRM ⊢
          clear hz hT hb hp hL hlt hy
          gi_wp2
          refine ⟨trivial, (CallsIn.inRound l (callsIn_wide.2 HRM.out)).mono ?_⟩
          rintro e Y2 ⟨rfl, fY⟩
          have HI2 := Lib.hid (And.intro (HI.out.1.keep0 fY) (And.intro (HI.out.2.1.keep fY (fun q => q)) fY))
          clear fY c0 c1 ck h5 h6 w1 w2
          obtain ⟨ck, zk⟩ := HI2.out.2.1.box
          have hT3 := HI2.out.1.put HI2.out.2.1 (by omega) (by omega) (.int .i64 ((x' : Int) + 1))
          have hb3 : Blk (Y2.setCell ⟨KB1, 0, none⟩ (.int .i64 ((x' : Int) + 1))) KB1 3 #[.int .i64 ((x' : Int) + 1)] := HI2.out.2.1.set_ 0 _
          obtain ⟨_, _, _, c3, _, _, _⟩ := hT3.sm.cells
          obtain ⟨ck3, _⟩ := hb3.box
          have HI3 := Lib.hid (And.intro hT3 hb3)
          clear hT3 hb3
          have hK3 : KeepsFrom V1.heap.size Y (Y2.setCell ⟨KB1, 0, none⟩ (.int .i64 ((x' : Int) + 1))) := ((Fr.others HI2.out.2.2).trans (KeepsOthers.setCell _ _ _)).from _
          have hF3 : Fr (fun j => j = KB1 ∨ V1.heap.size ≤ j) Y (Y2.setCell ⟨KB1, 0, none⟩ (.int .i64 ((x' : Int) + 1))) := (HI2.out.2.2.mono (fun _ _ q => q.elim)).setCell (p := ⟨KB1, 0, none⟩) (.inl (.inl rfl)) _
          have HK3 := Lib.hid (And.intro hK3 hF3)
          clear hK3 hF3
          have hcast : ((x' + 1 : Nat) : Int) = (x' : Int) + 1 := by omega
          by_cases hzL : (x' : Int) + 1 = L
          · have hbe : ((x' : Int) + 1 == L) = true := by rw [beq_iff_eq]; exact hzL
            have HL3 := Lib.hid (And.intro hzL hcast)
            clear hzL hcast
            gi_wp2
            refine ⟨HK3.out.1, pre, x', rfl, by rw [← HZ.out.1]; rw [HZ.out.1]; exact HI.out.2.2, .inr ⟨rfl, HZ.out.1, HI3.out.1, ?_, ?_⟩⟩
            · rw [← HZ.out.1, HL3.out.2]
              exact HI3.out.2
            · rw [← HZ.out.1, HL3.out.2]
              exact HL3.out.1
          · have hbe : ((x' : Int) + 1 == L) = false := by rw [beq_eq_false_iff_ne]; exact hzL
            have HL3 := Lib.hid (And.intro hzL hcast)
            clear hzL hcast
            gi_wp2
            refine ⟨HK3.out.1, HK3.out.2, HI3.out.1, ?_, ?_, ?_⟩
            · rw [List.length_append, ← HZ.out.1]
              show Blk _ _ _ #[.int .i64 ((x' + 1 : Nat) : Int)]
              rw [HL3.out.2]
              exact HI3.out.2
            · have hp := HI.out.2.2
              rw [List.length_append, ← HZ.out.1]
              rw [← HZ.out.1] at hp
              show pre ++ [x'] = List.range (x' + 1)
              rw [List.range_succ, ← hp]
            · rw [List.length_append, ← HZ.out.1]
              show ((x' + 1 : Nat) : Int) < L
              have := HZ.out.2.1
              have := HL3.out.1
              omega
        · have hbne : ((x' : Int) != (z : Int)) = true := by rw [bne_iff_ne]; omega
          have HXZ := Lib.hid (And.intro hx hz)
          clear hz hT hb hp hL hlt hx
          obtain ⟨y, hy⟩ : ∃ y, y = makeN c (f + (z : Int)) := ⟨_, rfl⟩
          obtain ⟨y', hy'⟩ : ∃ y', y' = makeN c (f + (x' : Int)) := ⟨_, rfl⟩
          rw [← hy] at HRM
          rw [← hy']
          clear hy hy'
          gi_wp2
          refine ⟨trivial, (CallsIn.inRound l (callsIn_wide.2 HRM.out)).mono ?_⟩
          rintro e Y2 ⟨rfl, fY⟩
          have HI2 := Lib.hid (And.intro (HI.out.1.keep0 fY) (And.intro (HI.out.2.1.keep fY (fun q => q)) fY))
          clear fY c0 c1 ck h5 h6 w1 w2
          obtain ⟨ck, zk⟩ := HI2.out.2.1.box
          obtain ⟨_, _, _, _, c4, _, z4⟩ := HI2.out.1.sm.cells
          have HK3 : Hid (KeepsFrom V1.heap.size Y (Y2.setCell ⟨w.heap.size + 1 + 1, 0, none⟩ (.bool false))) := Lib.hid (((Fr.others HI2.out.2.2).trans (KeepsOthers.setCell _ _ _)).from _)
          gi_wp2
          exact ⟨HK3.out, pre, x', rfl, HI.out.2.2, .inl ⟨rfl, by rw [← HXZ.out.2]; exact HXZ.out.1⟩⟩
    rintro D1 Y1 ⟨hD1, z, HT2, HBz, hz⟩
    clear HBK1 HDS1 HSQ1
    have HDV1 : Hid (V1.heap.size ≤ D1) := Lib.hid hD1
    clear hD1
    obtain ⟨_, _, c2, c3, _, _, _⟩ := HT2.out.sm.cells
    obtain ⟨ck, _⟩ := HBz.out.box
    rcases hz with hz | ⟨hz1, hz2⟩
    · have hb1 : ((z : Int) != L) = false := by rw [bne_eq_false_iff_eq]; exact hz
      clear hz
      go_wp2_with fail
      rw [rounds_succ]
      go_wp2_with fail
      refine (HK.out _).mono ?_
      rintro e Z ⟨rfl, fZ⟩
      have HTZ := Lib.hid (HT2.out.keep0 fZ)
      obtain ⟨_, _, _, _, c4, _, z4⟩ := HTZ.out.sm.cells
      have hd0 := (Array.getElem?_eq_some_iff.1 (HTV1.out.dd D0 (by simp))).1
      have hd1 := HDV1.out
      have hne : D0 ≠ D1 := by omega
      have hd2 := HTV0.out.sm.fr.size
      have hd3 := HDV0.out
      have HN9 := Lib.hid (And.intro hne (And.intro (show w.heap.size ≤ D0 by omega) (show w.heap.size ≤ D1 by omega)))
      clear fZ c2 c3 ck hb1 hd0 hd1 hne hd2 hd3
      go_wp2_with fail
      have hZ := HTZ.out.sm.told
      have hK1 := ((KeepsOthers.setCell Z ⟨w.heap.size + 1 + 1, 0, none⟩ (.bool true)).same D1 _ (HTZ.out.dd D1 (by simp)) rfl)
      have hK0 := ((KeepsOthers.setCell Z ⟨w.heap.size + 1 + 1, 0, none⟩ (.bool true)).same D0 _ (HTZ.out.dd D0 (by simp)) rfl)
      obtain ⟨z1, z2, _⟩ := fin_put hK1 (Nat.le_refl _) HN9.out.2.2 hZ.fr
      have hK0' := (World.putObj_heap_other (o := .deferred none) HN9.out.1).trans hK0
      obtain ⟨y1, y2, _⟩ := fin_put hK0' (Nat.le_refl _) HN9.out.2.1 z1
      refine ⟨by simp, .inl ⟨_, _, rfl, run_takeDeferred hK1, by simp, .inl ⟨_, _, rfl, run_takeDeferred hK0', ?_⟩⟩⟩
      exact ⟨_, results_so rfl (y2 (z2 hZ.r)), rfl, y1⟩
    · have hb1 : ((z : Int) != L) = true := by rw [bne_iff_ne]; exact hz1
      have hb2 : ((z : Int) != k) = false := by rw [bne_eq_false_iff_eq]; exact hz2
      clear hz1 hz2
      go_wp2_with fail
      rw [rounds_succ]
      go_wp2_with fail
      refine (HK.out _).mono ?_
      rintro e Z ⟨rfl, fZ⟩
      have HTZ := Lib.hid (HT2.out.keep0 fZ)
      obtain ⟨_, _, _, _, c4, _, z4⟩ := HTZ.out.sm.cells
      have hd0 := (Array.getElem?_eq_some_iff.1 (HTV1.out.dd D0 (by simp))).1
      have hd1 := HDV1.out
      have hne : D0 ≠ D1 := by omega
      have hd2 := HTV0.out.sm.fr.size
      have hd3 := HDV0.out
      have HN9 := Lib.hid (And.intro hne (And.intro (show w.heap.size ≤ D0 by omega) (show w.heap.size ≤ D1 by omega)))
      clear fZ c2 c3 ck hb1 hd0 hd1 hne hd2 hd3
      go_wp2_with fail
      have hZ := HTZ.out.sm.told
      have hK1 := ((KeepsOthers.setCell Z ⟨w.heap.size + 1 + 1, 0, none⟩ (.bool true)).same D1 _ (HTZ.out.dd D1 (by simp)) rfl)
      have hK0 := ((KeepsOthers.setCell Z ⟨w.heap.size + 1 + 1, 0, none⟩ (.bool true)).same D0 _ (HTZ.out.dd D0 (by simp)) rfl)
      obtain ⟨z1, z2, _⟩ := fin_put hK1 (Nat.le_refl _) HN9.out.2.2 hZ.fr
      have hK0' := (World.putObj_heap_other (o := .deferred none) HN9.out.1).trans hK0
      obtain ⟨y1, y2, _⟩ := fin_put hK0' (Nat.le_refl _) HN9.out.2.1 z1
      refine ⟨by simp, .inl ⟨_, _, rfl, run_takeDeferred hK1, by simp, .inl ⟨_, _, rfl, run_takeDeferred hK0', ?_⟩⟩⟩
      exact ⟨_, results_so rfl (y2 (z2 hZ.r)), rfl, y1⟩
  · have hb1 : ((z : Int) != L) = true := by rw [bne_iff_ne]; exact hz1
    have hb2 : ((z : Int) != k) = false := by rw [bne_eq_false_iff_eq]; exact hz2
    clear hz1 hz2
    go_wp2_with fail
    rw [rounds_succ]
    go_upto_block 4 with fail
    obtain ⟨KB1, hKB1⟩ : ∃ KB, KB = Y0.heap.size := ⟨_, rfl⟩
    obtain ⟨V1, hV1⟩ : ∃ V, V = Y0.alloc (.cells #[.int .i64 0] 3) := ⟨_, rfl⟩
    have hbk1 : Blk V1 KB1 3 #[.int .i64 0] := by rw [hV1, hKB1]; exact Blk.new _ _ _
    have hvs1 : V1.heap.size = KB1 + 1 := by rw [hV1, hKB1]; simp
    have HTV1 : Hid (TM w V1 c f k L B [D0]) := Lib.hid (by rw [hV1]; exact HT1.out.keep0 ((Fr.refl _ _).alloc _))
    have hkb1 : B < KB1 := by rw [hKB1]; exact HT1.out.st.lt
    have hlo1 : w.heap.size + 3 ≤ B := HT1.out.lo
    have HBK1 := Lib.hid hbk1
    have HDS1 : Hid (∀ D ∈ [D0], D < V1.heap.size) := Lib.hid (fun D hD => (Array.getElem?_eq_some_iff.1 (HTV1.out.dd D hD)).1)
    have HVS1 := Lib.hid hvs1
    have HSQ1 := Lib.hid (all_stops (fun j => j = KB1 ∨ V1.heap.size ≤ j) B c f k HRR.out.1 V1 (by omega) HTV1.out.st)
    rw [← hV1, ← hKB1]
    clear hV1 hKB1 hbk1 hvs1
    refine block_cut (R := fun D Y => V1.heap.size ≤ D ∧ ∃ z : Nat, Hid (TM w Y c f k L B (D :: [D0])) ∧ Hid (Blk Y KB1 3 #[.int .i64 (z : Nat)]) ∧ ((z : Int) = L ∨ ((z : Int) ≠ L ∧ (z : Int) = k))) ?h1_3 ?k1_3
    case h1_3 =>
      go_wp2_with fail
      refine (wpIn_wide (n := 10)).1 ?_
      refine range_leave rfl (by omega) (gf := 39) (lb := #[.pointer (some ⟨B, 0, none⟩)]) rfl trivial (enters_of Try.func39 (by kernel_rfl) rfl) HSQ1.out (fun _ q => .inr q) (fun _ => rfl)
        (fun pre Y => TM w Y c f k L B [D0] ∧ Blk Y KB1 3 #[.int .i64 (pre.length : Nat)] ∧ pre = List.range pre.length ∧ (pre.length : Int) < L)
        (fun c' pre Y => ∃ pre' x', pre = pre' ++ [x'] ∧ pre' = List.range pre'.length ∧ ((c' = .ret ∧ x' ≠ pre'.length) ∨ (c' = .exit 4 ∧ x' = pre'.length ∧ TM w Y c f k L B [D0] ∧ Blk Y KB1 3 #[.int .i64 ((pre'.length + 1 : Nat) : Int)] ∧ ((pre'.length + 1 : Nat) : Int) = L)))
        (fun s X Y row hs hg hr' => ⟨hs.1.own (Nat.le_trans HTV1.out.sm.fr.size (Nat.le_refl _)) HDS1.out hg hr', blk_own hs.2.1 hg hr', hs.2.2⟩)
        (fun c' s X Y row hs hg hr' => by
          obtain ⟨pre', x', e1, e2, q | ⟨q1, q2, q3, q4, q5⟩⟩ := hs
          · exact ⟨pre', x', e1, e2, .inl q⟩
          · exact ⟨pre', x', e1, e2, .inr ⟨q1, q2, q3.own (Nat.le_trans HTV1.out.sm.fr.size (Nat.le_refl _)) HDS1.out hg hr', blk_own q4 hg hr', q5⟩⟩)
        ⟨HTV1.out, HBK1.out, rfl, by have := HL.out; simp; omega⟩
        (fun x' T => (((T.setIfInBounds 108 (.int .i64 (x' : Nat))).setIfInBounds 109 (.int .u64 (makeN c (f + x') : Nat))).setIfInBounds 17 (.int .i64 (x' : Nat))).setIfInBounds 18 (.int .u64 (makeN c (f + x') : Nat)))
        ?assign1_3 ?body1_3 ?done1_3 ?stop1_3
      case assign1_3 =>
        intro l x' Y K hK
        simp only [encN, List.zip_toArray, List.zip_cons_cons, List.zip_nil_right, List.foldl_toArray, List.foldl_cons, List.foldl_nil, List.setIfInBounds_toArray, List.set_cons_succ, List.set_cons_zero] at hK ⊢
        gi_wp2
        exact hK
      case done1_3 =>
        rintro D xs Y hD rfl ⟨hT, hb, hp, hL⟩ hK
        rw [List.length_range] at hb hL
        refine ⟨rfl, D, rfl, hD, cntS c f k, Lib.hid (hT.add hK), Lib.hid hb, .inr ⟨by omega, ?_⟩⟩
        rw [HCN.out]
        omega
      case stop1_3 =>
        rintro D c' pre Y hD ⟨j, hj, hpre⟩ ⟨pre', x', e1, e2, ⟨q1, q2⟩ | ⟨rfl, q2, q3, q4, q5⟩⟩ hK
        · exact absurd (range_last (hpre.symm.trans e1)) q2
        · have HQ := Lib.hid (And.intro (q3.add hK) (And.intro q4 q5))
          clear hpre e1 e2 q2 q3 q4 q5 hK hj
          gi_wp2
          exact ⟨Lib.hid HQ.out.1, pre'.length + 1, Lib.hid HQ.out.2.1, .inl HQ.out.2.2⟩
      case body1_3 =>
        rintro l pre x' Y ⟨hT, hb, hp, hL⟩ hlt
        simp only [List.setIfInBounds_toArray, List.set_cons_succ, List.set_cons_zero]
        obtain ⟨z, hz⟩ : ∃ z, z = pre.length := ⟨_, rfl⟩
        rw [← hz] at hb hL hlt
        rw [HCN.out] at hlt
        have HI := Lib.hid (And.intro hT (And.intro hb hp))
        have HRM := Lib.hid (rmake_any c (f + (z : Int)) Y)
        rw [HMM.out z hlt] at HRM
        have h5 : f + (z : Int) ≤ 1000000000 := by omega
        have h6 : 0 ≤ f + (z : Int) := by omega
        have w1 : IntKind.i64.wrap (f + (z : Int)) = f + (z : Int) := by simp [IntKind.wrap, IntKind.signed, IntKind.bits]; omega
        have w2 : wrap64 (f + (z : Int)) = f + (z : Int) := by unfold wrap64; omega
        have hz9 : (z : Int) ≤ 1000000000 := by omega
        have HZ := Lib.hid (And.intro hz (And.intro hL hlt))
        obtain ⟨c0, c1, _, _, _, _, _⟩ := hT.sm.cells
        obtain ⟨ck, _⟩ := hb.box
        by_cases hx : x' = z
        · subst hx
          obtain ⟨y, hy⟩ : ∃ y, y = makeN c (f + (x' : Int)) := ⟨_, rfl⟩
          rw [← hy] at HRM ⊢
          clear hz hT hb hp hL hlt hy
          gi_wp2
          refine ⟨trivial, (CallsIn.inRound l (callsIn_wide.2 HRM.out)).mono ?_⟩
          rintro e Y2 ⟨rfl, fY⟩
          have HI2 := Lib.hid (And.intro (HI.out.1.keep0 fY) (And.intro (HI.out.2.1.keep fY (fun q => q)) fY))
          clear fY c0 c1 ck h5 h6 w1 w2
          obtain ⟨ck, zk⟩ := HI2.out.2.1.box
          have hT3 := HI2.out.1.put HI2.out.2.1 (by omega) (by omega) (.int .i64 ((x' : Int) + 1))
          have hb3 : Blk (Y2.setCell ⟨KB1, 0, none⟩ (.int .i64 ((x' : Int) + 1))) KB1 3 #[.int .i64 ((x' : Int) + 1)] := HI2.out.2.1.set_ 0 _
          obtain ⟨_, _, _, c3, _, _, _⟩ := hT3.sm.cells
          obtain ⟨ck3, _⟩ := hb3.box
          have HI3 := Lib.hid (And.intro hT3 hb3)
          clear hT3 hb3
          have hK3 : KeepsFrom V1.heap.size Y (Y2.setCell ⟨KB1, 0, none⟩ (.int .i64 ((x' : Int) + 1))) := ((Fr.others HI2.out.2.2).trans (KeepsOthers.setCell _ _ _)).from _
          have hF3 : Fr (fun j => j = KB1 ∨ V1.heap.size ≤ j) Y (Y2.setCell ⟨KB1, 0, none⟩ (.int .i64 ((x' : Int) + 1))) := (HI2.out.2.2.mono (fun _ _ q => q.elim)).setCell (p := ⟨KB1, 0, none⟩) (.inl (.inl rfl)) _
          have HK3 := Lib.hid (And.intro hK3 hF3)
          clear hK3 hF3
          have hcast : ((x' + 1 : Nat) : Int) = (x' : Int) + 1 := by omega
          by_cases hzL : (x' : Int) + 1 = L
          · have hbe : ((x' : Int) + 1 == L) = true := by rw [beq_iff_eq]; exact hzL
            have HL3 := Lib.hid (And.intro hzL hcast)
            clear hzL hcast
            gi_wp2
            refine ⟨HK3.out.1, pre, x', rfl, by rw [← HZ.out.1]; rw [HZ.out.1]; exact HI.out.2.2, .inr ⟨rfl, HZ.out.1, HI3.out.1, ?_, ?_⟩⟩
            · rw [← HZ.out.1, HL3.out.2]
              exact HI3.out.2
            · rw [← HZ.out.1, HL3.out.2]
              exact HL3.out.1
          · have hbe : ((x' : Int) + 1 == L) = false := by rw [beq_eq_false_iff_ne]; exact hzL
            have HL3 := Lib.hid (And.intro hzL hcast)
            clear hzL hcast
            gi_wp2
            refine ⟨HK3.out.1, HK3.out.2, HI3.out.1, ?_, ?_, ?_⟩
            · rw [List.length_append, ← HZ.out.1]
              show Blk _ _ _ #[.int .i64 ((x' + 1 : Nat) : Int)]
              rw [HL3.out.2]
              exact HI3.out.2
            · have hp := HI.out.2.2
              rw [List.length_append, ← HZ.out.1]
              rw [← HZ.out.1] at hp
              show pre ++ [x'] = List.range (x' + 1)
              rw [List.range_succ, ← hp]
            · rw [List.length_append, ← HZ.out.1]
              show ((x' + 1 : Nat) : Int) < L
              have := HZ.out.2.1
              have := HL3.out.1
              omega
        · have hbne : ((x' : Int) != (z : Int)) = true := by rw [bne_iff_ne]; omega
          have HXZ := Lib.hid (And.intro hx hz)
          clear hz hT hb hp hL hlt hx
          obtain ⟨y, hy⟩ : ∃ y, y = makeN c (f + (z : Int)) := ⟨_, rfl⟩
          obtain ⟨y', hy'⟩ : ∃ y', y' = makeN c (f + (x' : Int)) := ⟨_, rfl⟩
          rw [← hy] at HRM
          rw [← hy']
          clear hy hy'
          gi_wp2
          refine ⟨trivial, (CallsIn.inRound l (callsIn_wide.2 HRM.out)).mono ?_⟩
          rintro e Y2 ⟨rfl, fY⟩
          have HI2 := Lib.hid (And.intro (HI.out.1.keep0 fY) (And.intro (HI.out.2.1.keep fY (fun q => q)) fY))
          clear fY c0 c1 ck h5 h6 w1 w2
          obtain ⟨ck, zk⟩ := HI2.out.2.1.box
          obtain ⟨_, _, _, _, c4, _, z4⟩ := HI2.out.1.sm.cells
          have HK3 : Hid (KeepsFrom V1.heap.size Y (Y2.setCell ⟨w.heap.size + 1 + 1, 0, none⟩ (.bool false))) := Lib.hid (((Fr.others HI2.out.2.2).trans (KeepsOthers.setCell _ _ _)).from _)
          gi_wp2
          exact ⟨HK3.out, pre, x', rfl, HI.out.2.2, .inl ⟨rfl, by rw [← HXZ.out.2]; exact HXZ.out.1⟩⟩
    rintro D1 Y1 ⟨hD1, z, HT2, HBz, hz⟩
    clear HBK1 HDS1 HSQ1
    have HDV1 : Hid (V1.heap.size ≤ D1) := Lib.hid hD1
    clear hD1
    obtain ⟨_, _, c2, c3, _, _, _⟩ := HT2.out.sm.cells
    obtain ⟨ck, _⟩ := HBz.out.box
    rcases hz with hz | ⟨hz1, hz2⟩
    · have hb1 : ((z : Int) != L) = false := by rw [bne_eq_false_iff_eq]; exact hz
      clear hz
      go_wp2_with fail
      rw [rounds_succ]
      go_wp2_with fail
      refine (HK.out _).mono ?_
      rintro e Z ⟨rfl, fZ⟩
      have HTZ := Lib.hid (HT2.out.keep0 fZ)
      obtain ⟨_, _, _, _, c4, _, z4⟩ := HTZ.out.sm.cells
      have hd0 := (Array.getElem?_eq_some_iff.1 (HTV1.out.dd D0 (by simp))).1
      have hd1 := HDV1.out
      have hne : D0 ≠ D1 := by omega
      have hd2 := HTV0.out.sm.fr.size
      have hd3 := HDV0.out
      have HN9 := Lib.hid (And.intro hne (And.intro (show w.heap.size ≤ D0 by omega) (show w.heap.size ≤ D1 by omega)))
      clear fZ c2 c3 ck hb1 hd0 hd1 hne hd2 hd3
      go_wp2_with fail
      have hZ := HTZ.out.sm.told
      have hK1 := ((KeepsOthers.setCell Z ⟨w.heap.size + 1 + 1, 0, none⟩ (.bool true)).same D1 _ (HTZ.out.dd D1 (by simp)) rfl)
      have hK0 := ((KeepsOthers.setCell Z ⟨w.heap.size + 1 + 1, 0, none⟩ (.bool true)).same D0 _ (HTZ.out.dd D0 (by simp)) rfl)
      obtain ⟨z1, z2, _⟩ := fin_put hK1 (Nat.le_refl _) HN9.out.2.2 hZ.fr
      have hK0' := (World.putObj_heap_other (o := .deferred none) HN9.out.1).trans hK0
      obtain ⟨y1, y2, _⟩ := fin_put hK0' (Nat.le_refl _) HN9.out.2.1 z1
      refine ⟨by simp, .inl ⟨_, _, rfl, run_takeDeferred hK1, by simp, .inl ⟨_, _, rfl, run_takeDeferred hK0', ?_⟩⟩⟩
      exact ⟨_, results_so rfl (y2 (z2 hZ.r)), rfl, y1⟩
    · have hb1 : ((z : Int) != L) = true := by rw [bne_iff_ne]; exact hz1
      have hb2 : ((z : Int) != k) = false := by rw [bne_eq_false_iff_eq]; exact hz2
      clear hz1 hz2
      go_wp2_with fail
      rw [rounds_succ]
      go_wp2_with fail
      refine (HK.out _).mono ?_
      rintro e Z ⟨rfl, fZ⟩
      have HTZ := Lib.hid (HT2.out.keep0 fZ)
      obtain ⟨_, _, _, _, c4, _, z4⟩ := HTZ.out.sm.cells
      have hd0 := (Array.getElem?_eq_some_iff.1 (HTV1.out.dd D0 (by simp))).1
      have hd1 := HDV1.out
      have hne : D0 ≠ D1 := by omega
      have hd2 := HTV0.out.sm.fr.size
      have hd3 := HDV0.out
      have HN9 := Lib.hid (And.intro hne (And.intro (show w.heap.size ≤ D0 by omega) (show w.heap.size ≤ D1 by omega)))
      clear fZ c2 c3 ck hb1 hd0 hd1 hne hd2 hd3
      go_wp2_with fail
      have hZ := HTZ.out.sm.told
      have hK1 := ((KeepsOthers.setCell Z ⟨w.heap.size + 1 + 1, 0, none⟩ (.bool true)).same D1 _ (HTZ.out.dd D1 (by simp)) rfl)
      have hK0 := ((KeepsOthers.setCell Z ⟨w.heap.size + 1 + 1, 0, none⟩ (.bool true)).same D0 _ (HTZ.out.dd D0 (by simp)) rfl)
      obtain ⟨z1, z2, _⟩ := fin_put hK1 (Nat.le_refl _) HN9.out.2.2 hZ.fr
      have hK0' := (World.putObj_heap_other (o := .deferred none) HN9.out.1).trans hK0
      obtain ⟨y1, y2, _⟩ := fin_put hK0' (Nat.le_refl _) HN9.out.2.1 z1
      refine ⟨by simp, .inl ⟨_, _, rfl, run_takeDeferred hK1, by simp, .inl ⟨_, _, rfl, run_takeDeferred hK0', ?_⟩⟩⟩
      exact ⟨_, results_so rfl (y2 (z2 hZ.r)), rfl, y1⟩
end Go.Proofs.Ytchofmncinbmcaa
