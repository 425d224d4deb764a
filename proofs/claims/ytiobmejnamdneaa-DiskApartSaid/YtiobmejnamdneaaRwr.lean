/- The document's disk: Write, Flush. -/
import Derived.Test.YtiobmejnamdneaaRsl
namespace Go.Proofs.Ytiobmejnamdneaa
open Go.RowKit Go.Maps

section
variable {P : Program} {ops : Array Oper} {Q : Exit → Act → World → Prop} {md : Region.Mode} {S : World → Prop}
/-- Two operations are ready: whichever comes up. -/
theorem anyH_alt (i j : Nat) {fuel : Nat} {listed : Array Bool} {T : Array Value} {ds : List Deferred} {w : World} (hr : Region.ready md ops listed = [i, j])
    (hi : wpOp P ops Q i (fun a' w' => S w' ∧ wpAnyH P md ops Q S fuel (listed.setIfInBounds i true) a' w') { tmps := T, defers := ds } w)
    (hj : wpOp P ops Q j (fun a' w' => S w' ∧ wpAnyH P md ops Q S fuel (listed.setIfInBounds j true) a' w') { tmps := T, defers := ds } w) : wpAnyH P md ops Q S (fuel + 1) listed { tmps := T, defers := ds } w := by
  refine wpAnyH_all hr (by simp) fun q hq => ?_
  simp only [List.mem_cons, List.not_mem_nil, or_false] at hq
  rcases hq with rfl | rfl
  · exact hi
  · exact hj
end
/-- All of a row's sectors put behind none. -/
theorem append_all {w : World} (ty : TypeId) {x : Value} {ss : List (List UInt8)} (h : w.ownsRow 0 31 128 x ss.length (cellsB ss.flatten)) (hall : ∀ s ∈ ss, s.length = 128) (h0 : ss ≠ []) (hN : ss.length ≤ 100000) :
    ∃ v' w', (Builtin.append_ #[38, 38] ty #[.slice none 0 0, x]).run Try.prog w = .ok v' w' ∧ w'.ownsRow 0 31 128 v' ss.length (cellsB ss.flatten) ∧ Fr (fun _ => False) w w' ∧ (∀ b, v'.ownBlock = some b → w.heap.size ≤ b) := by
  obtain ⟨i0, hi, hz0, hz1, hz2⟩ := info_parts infoSec
  obtain ⟨A, ce, rfl, hm1, hm2, h3⟩ := secV_row h hall
  obtain ⟨b, off, rfl, hsec⟩ := h3 (List.length_pos_iff.2 h0)
  have hfl := hsec.flat
  obtain ⟨v', w', hrun, g2, g3, _, g5⟩ := run_append_own_at (P := Try.prog) w 0 38 ty 31 i0 (av (nought 128)) 128 128 Try.underlying38 hi hz0 hz1 hz2 (by simp [Value.cells, cellsB_len, nought_len]) (by omega) (.slice none 0 0) 0 [] (World.ownsRow_nil _ _ _ _) ⟨b, off, none⟩ ss.length ce (cellsB ss.flatten)
    (by rw [cellsB_len, flat_len hall]) (fun j z hj => by
      rw [Addr.add_mid]
      exact hfl j z hj) (cellsB_one _) (by simp only [maxLen]; omega) (by omega) (Nat.zero_le _)
  rw [Nat.zero_add, List.nil_append] at g2
  refine ⟨v', w', hrun, g2, (Fr.refl _ w).grown g3 (fun k hk => by simp [Value.ownBlock] at hk), fun b hb => ?_⟩
  rcases g5 with e | e
  · rw [e] at hb; simp [Value.ownBlock] at hb
  · rw [e] at hb
    injection hb with hb
    omega
theorem rin_set {g : Nat} {v : Value} {vs : List Value} {i b n : Nat} {x : Value} (hx : x.ownBlock = some b → n ≤ b) (h : RIn g v (vs.set i x) b) : RIn g v vs b ∨ n ≤ b := by
  rcases h with h | h | ⟨y, hy, h⟩
  · exact .inl (.inl h)
  · exact .inl (.inr (.inl h))
  · rcases List.mem_or_eq_of_mem_set hy with q | q
    · exact .inl (.inr (.inr ⟨y, q, h⟩))
    · rw [q] at h
      exact .inr (hx h)
section
variable {w : World} {g : Nat} {v : Value} {vs : List Value} {r : RD}
set_option maxRecDepth 100000 in
set_option maxHeartbeats 4000000 in
theorem rwrite_any (h : RefW w g v vs r) (h1 : r.left ≤ 9223372036854775807) {i : Nat} {ss : List (List UInt8)} (hi : r.V[i]? = some ss) (hN : ss.length ≤ 10000) {s : List UInt8} (hs : s.length = 128) (ho : r.out = false) :
    Calls Try.prog 23 #[.pointer (some ⟨g, 0, none⟩), .int .i64 i, av s] w fun e w' => e = .returned (.bool true) ∧ (∃ vs', RefW w' g v vs' { r.stepD with V := r.V.set i (ss ++ [s]) } ∧ ∀ b, RIn g v vs' b → RIn g v vs b ∨ w.heap.size ≤ b) ∧ Fr (fun b => b = g ∨ v.ownBlock = some b) w w' := by
  have fa := (Fr.refl (fun _ => False) w).alloc (.cells (cellsB s).toArray 31)
  have h0 := h.keep fa (fun _ _ q => q)
  have hb0 := Blk.new w 31 (cellsB s).toArray
  have HS := Lib.hid hs
  have HSt := rstep_any h0 h1
  rw [ho] at HSt
  have H0 := Lib.hid (And.intro fa (And.intro hb0 (And.intro h hi)))
  have HN := Lib.hid hN
  clear fa h0 hb0 h hi hs h1 hN
  go_enter Try.func23, Try.ntmps23
  go_wp2_with (refine wpList_put rfl 31 _ rfl _ rfl ?_)
  refine HSt.mono ?_
  rintro e w2 ⟨rfl, hR2, f2⟩
  have hi2 : r.stepD.V[i]? = some ss := H0.out.2.2.2
  have hin : i < r.stepD.V.length := (List.getElem?_eq_some_iff.1 hi2).1
  obtain ⟨RB, c, cur, hv, hb, hnc, hcm, hcs, htk⟩ := hR2.form (by omega)
  obtain ⟨x, hx, hrow, hne, hall⟩ := hR2.at_ hi2
  obtain ⟨A, ce, hxe, _, _⟩ := own_slice hrow
  obtain ⟨n, hn⟩ : ∃ n, n = r.stepD.V.length := ⟨_, rfl⟩
  obtain ⟨m, hm⟩ : ∃ m, m = ss.length := ⟨_, rfl⟩
  have hgl := H0.out.2.2.1.blk.lt
  have hbs := H0.out.2.1.keep f2 (by omega)
  have cg : w2.cell? ⟨g, 0, none⟩ = some v := (hR2.blk.cell 0).trans rfl
  have cx := row_at hb htk hx
  have fx := hb.frozen i
  have hgR : g ≠ RB := fun e => hR2.g_row (by rw [hv, e]; rfl)
  have hsz2 : w.heap.size + 1 ≤ w2.heap.size := by
    have := f2.size
    have e : (w.alloc (.cells (cellsB s).toArray 31)).heap.size = w.heap.size + 1 := by
      show (w.heap.push _).size = _
      simp
    omega
  have H2 := Lib.hid (And.intro hR2 (And.intro hv (And.intro hb (And.intro hnc (And.intro hcm (And.intro hcs (And.intro htk (And.intro hx (And.intro hrow (And.intro hne (And.intro hall hin)))))))))))
  have HC : Hid (∀ w', Fr (fun b => b = RB) w2 w' → w'.cell? ⟨g, 0, none⟩ = some v) := Lib.hid fun w' f => (f.cell (World.block_lt_of_cell? w2 _ cg) hgR).trans cg
  have HBs : Hid (∀ w', Fr (fun b => b = RB) w2 w' → w'.rangeAt w.heap.size 0 (cellsB s)) := Lib.hid fun w' f => sec_range HS.out (hbs.keep f (by
    intro e
    have h3 := (H0.out.2.2.1.in_lt (b := RB) (.inr (.inl (by
      rw [hv]; rfl))))
    omega))
  have HX2 : Hid (w2.cell? ⟨RB, i, none⟩ = some x ∧ w2.frozen? ⟨RB, i, none⟩ = false ∧ RB < w2.heap.size) := Lib.hid ⟨cx, fx, hb.lt⟩
  have HF2 := Lib.hid (And.intro (((H0.out.1.mono (G := fun b => b = g ∨ v.ownBlock = some b) (fun _ _ q => q.elim)).trans f2 (fun _ _ q => .inl q))) hsz2)
  have HM := Lib.hid hm
  rw [← hn] at hv
  have hu := Try.underlying31
  have hszs : (Try.prog.info? 31).map (·.size) = some (cellsB s).length := by rw [infoSector, cellsB_len, HS.out]
  have hi0 : (0 : Int) ≤ (i : Int) := by omega
  have hi1 : (i : Int) < (n : Int) := by omega
  rw [hv] at HC
  have HV := Lib.hid (And.intro hv hn)
  have HXE := Lib.hid hxe
  clear hR2 hi2 hin hb hnc hcm hcs htk hx hrow hne hall hgl hbs cg cx fx hgR hsz2 f2 HSt hv hn hm hxe
  go_wp2_with fail
  refine wp_region_held_drew (S := fun w' => Fr (fun b => b = RB) w2 w') (by kernel_rfl) ((Fr.refl _ _).drew) (fun hS0 => ?_)
  refine anyH_take 0 10 (.pointer (some ⟨g, 0, none⟩)) rfl rfl (by kernel_rfl) (by kernel_rfl) (by kernel_rfl) (fun _ _ _ h => h) (.inl ⟨by rfl, fun w'' hS => by go_simp⟩) hS0 ?_
  (simp only [List.setIfInBounds_toArray, List.set_cons_zero, List.set_cons_succ])
  refine anyH_take 1 11 (.pointer (some ⟨g, 0, none⟩)) rfl rfl (by kernel_rfl) (by kernel_rfl) (by kernel_rfl) (fun _ _ _ h => h) (.inl ⟨by rfl, fun w'' hS => by go_simp⟩) hS0 ?_
  (simp only [List.setIfInBounds_toArray, List.set_cons_zero, List.set_cons_succ])
  refine anyH_take 2 12 (.pointer (some ⟨g, 0, none⟩)) rfl rfl (by kernel_rfl) (by kernel_rfl) (by kernel_rfl) (fun _ _ _ h => h) (.inl ⟨by rfl, fun w'' hS => by go_simp⟩) hS0 ?_
  (simp only [List.setIfInBounds_toArray, List.set_cons_zero, List.set_cons_succ])
  refine anyH_take 3 13 (.slice (some ⟨RB, 0, none⟩) n c) rfl rfl (by kernel_rfl) (by kernel_rfl) (by kernel_rfl) (fun _ _ _ h => h) (.inl ⟨by rfl, fun w'' hS => by have q0 := HC.out w'' hS; go_simp⟩) hS0 ?_
  (simp only [List.setIfInBounds_toArray, List.set_cons_zero, List.set_cons_succ])
  refine anyH_take 4 14 (.int .i64 (i : Nat)) rfl rfl (by kernel_rfl) (by kernel_rfl) (by kernel_rfl) (fun _ _ _ h => h) (.inl ⟨by rfl, fun w'' hS => by go_simp⟩) hS0 ?_
  (simp only [List.setIfInBounds_toArray, List.set_cons_zero, List.set_cons_succ])
  refine anyH_take 5 15 (.pointer (some ⟨g, 0, none⟩)) rfl rfl (by kernel_rfl) (by kernel_rfl) (by kernel_rfl) (fun _ _ _ h => h) (.inl ⟨by rfl, fun w'' hS => by go_simp⟩) hS0 ?_
  (simp only [List.setIfInBounds_toArray, List.set_cons_zero, List.set_cons_succ])
  refine anyH_take 6 16 (.pointer (some ⟨g, 0, none⟩)) rfl rfl (by kernel_rfl) (by kernel_rfl) (by kernel_rfl) (fun _ _ _ h => h) (.inl ⟨by rfl, fun w'' hS => by go_simp⟩) hS0 ?_
  (simp only [List.setIfInBounds_toArray, List.set_cons_zero, List.set_cons_succ])
  refine anyH_take 7 17 (.pointer (some ⟨g, 0, none⟩)) rfl rfl (by kernel_rfl) (by kernel_rfl) (by kernel_rfl) (fun _ _ _ h => h) (.inl ⟨by rfl, fun w'' hS => by go_simp⟩) hS0 ?_
  (simp only [List.setIfInBounds_toArray, List.set_cons_zero, List.set_cons_succ])
  refine anyH_take 8 18 (.slice (some ⟨RB, 0, none⟩) n c) rfl rfl (by kernel_rfl) (by kernel_rfl) (by kernel_rfl) (fun _ _ _ h => h) (.inl ⟨by rfl, fun w'' hS => by have q0 := HC.out w'' hS; go_simp⟩) hS0 ?_
  (simp only [List.setIfInBounds_toArray, List.set_cons_zero, List.set_cons_succ])
  refine anyH_take 9 19 (.int .i64 (i : Nat)) rfl rfl (by kernel_rfl) (by kernel_rfl) (by kernel_rfl) (fun _ _ _ h => h) (.inl ⟨by rfl, fun w'' hS => by go_simp⟩) hS0 ?_
  (simp only [List.setIfInBounds_toArray, List.set_cons_zero, List.set_cons_succ])
  refine anyH_take 10 20 (.pointer (some ⟨RB, i, none⟩)) rfl rfl (by kernel_rfl) (by kernel_rfl) (by kernel_rfl) (fun _ _ _ h => h) (.inl ⟨by rfl, fun w'' hS => by go_simp⟩) hS0 ?_
  (simp only [List.setIfInBounds_toArray, List.set_cons_zero, List.set_cons_succ])
  refine anyH_take 13 23 (.agg (cellsB s).toArray) rfl rfl (by kernel_rfl) (by kernel_rfl) (by kernel_rfl) (fun _ _ _ h => h) (yieldsIf_load_mid (by rfl) _ _ rfl _ _ rfl _ _ (fun w' f => HBs.out w' f) hu rfl hszs) hS0 ?_
  (simp only [List.setIfInBounds_toArray, List.set_cons_zero, List.set_cons_succ])
  refine anyH_alt 11 14 (by kernel_rfl) ?_ ?_
  · refine wpOp_value 21 x rfl rfl (by rfl) (by have q0 : (w2.drew).cell? ⟨RB, i, none⟩ = some x := HX2.out.1; rw [HXE.out] at q0; rw [HXE.out]; go_simp) ⟨hS0, ?_⟩
    (simp only [List.setIfInBounds_toArray, List.set_cons_zero, List.set_cons_succ])
    have hx12 : (w2.drew).ownsRow 0 31 128 x ss.length (cellsB ss.flatten) := H2.out.2.2.2.2.2.2.2.2.1
    refine anyH_alt 12 14 (by kernel_rfl) ?_ ?_
    · obtain ⟨v12, w12, hrun12, hrow12, f12, hge12⟩ := append_all 38 hx12 H2.out.2.2.2.2.2.2.2.2.2.2.1 H2.out.2.2.2.2.2.2.2.2.2.1 (by have := HN.out; omega)
      refine wpOp_value 22 v12 rfl rfl (by rfl) (run_append_op (.const (.slice none 0 0)) (.tmp 21) rfl rfl rfl hrun12) ⟨((Fr.refl (fun b => b = RB) w2).drew).trans (f12.mono (fun _ _ q => q.elim)) (fun _ _ q => q), ?_⟩
      (simp only [List.setIfInBounds_toArray, List.set_cons_zero, List.set_cons_succ])
      have fw : Fr (fun _ => False) w2 w12 := ((Fr.refl _ w2).drew).trans f12 (fun _ _ q => q)
      refine anyH_value 14 24 (.slice (some ⟨w12.heap.size, 0, none⟩) 1 1) (w12.alloc (.cells (cellsB s).toArray 31)) (by kernel_rfl) rfl rfl (by rfl) (run_build_op _ rfl HS.out rfl) ((fw.mono (fun _ _ q => q.elim)).alloc _) ?_
      (simp only [List.setIfInBounds_toArray, List.set_cons_zero, List.set_cons_succ])
      have fa := fw.alloc (.cells (cellsB s).toArray 31)
      have row12 := own_keep hrow12 ((Fr.refl (fun _ => False) w12).alloc (.cells (cellsB s).toArray 31)) (fun _ _ q => q)
      have blk14 := Blk.new w12 31 (cellsB s).toArray
      have ge12 : ∀ k, v12.ownBlock = some k → w2.heap.size ≤ k := hge12
      obtain ⟨v15, w15, hrun15, hrow15, hg15, hvb15⟩ := append_one row12 blk14 HS.out (by have := HN.out; omega) 38
      have f15 : Fr (fun _ => False) w2 w15 := fa.grown hg15 (fun k hk => .inr (ge12 k hk))
      refine anyH_value 15 25 v15 w15 (by kernel_rfl) rfl rfl (by rfl) (run_append_op (.tmp 22) (.tmp 24) rfl rfl rfl hrun15) (f15.mono (fun _ _ q => q.elim)) ?_
      (simp only [List.setIfInBounds_toArray, List.set_cons_zero, List.set_cons_succ])
      have q0 : w15.cell? ⟨RB, i, none⟩ = some x := (f15.cell (p := ⟨RB, i, none⟩) HX2.out.2.2 (fun q => q)).trans HX2.out.1
      have q1 : w15.frozen? ⟨RB, i, none⟩ = false := (f15.frozen (p := ⟨RB, i, none⟩) HX2.out.2.2 (fun q => q)).trans HX2.out.2.1
      obtain ⟨hE1, hE2⟩ := H2.out.1.setEl (i := i) H2.out.2.2.2.2.2.2.2.2.2.2.2 H2.out.2.1 H2.out.2.2.1 H2.out.2.2.2.1 H2.out.2.2.2.2.1 H2.out.2.2.2.2.2.1 H2.out.2.2.2.2.2.2.1 f15 (x' := v15) (ss' := ss ++ [s]) (by simpa using hrow15) (by simp) (fun y hy => by
        rcases List.mem_append.1 hy with q | q
        · exact H2.out.2.2.2.2.2.2.2.2.2.2.1 y q
        · rw [List.mem_singleton.1 q]; exact HS.out)
      obtain ⟨A15, c15, hv15, _, _⟩ := own_slice hrow15
      have hS15 : Fr (fun b => b = RB) w2 w15 := f15.mono (fun _ _ q => q.elim)
      refine anyH_take 16 26 (.pointer (some ⟨RB, i, none⟩)) rfl rfl (by kernel_rfl) (by kernel_rfl) (by kernel_rfl) (fun _ _ _ h => h) (.inl ⟨by rfl, fun w'' hS => by go_simp⟩) hS15 ?_
      (simp only [List.setIfInBounds_toArray, List.set_cons_zero, List.set_cons_succ])
      have HE := Lib.hid (And.intro hE1 (And.intro hE2 (fun b (hb : v15.ownBlock = some b) => (by
        rcases hvb15 with e | e
        · rw [e] at hb
          have := ge12 b hb
          have := HF2.out.2
          omega
        · rw [e] at hb
          injection hb with hb
          have := fa.size
          have := HF2.out.2
          omega : w.heap.size ≤ b))))
      refine anyH_skip 17 (w15.setCell ⟨RB, i, none⟩ v15) (by kernel_rfl) rfl rfl (by rfl) (by rw [HXE.out] at q0; rw [hv15]; go_simp) hE2 ?_
      refine wpAnyH_done (by kernel_rfl) ?_ _
      generalize w15.setCell ⟨RB, i, none⟩ v15 = w17 at *
      have HFin := Lib.hid (HF2.out.1.trans HE.out.2.1 (fun b hb q => .inr (by have q' : b = RB := q; rw [q', HV.out.1]; rfl)))
      clear hE1 hE2 q0 q1 f15 hrun15 hrow15 hg15 hvb15 row12 blk14 ge12
      go_wp2_with fail
      go_ret
      exact ⟨rfl, ⟨_, HE.out.1, fun b hb => (rin_set (fun q => HE.out.2.2 b q) hb)⟩, HFin.out⟩
    · refine wpOp_value 24 (.slice (some ⟨w2.drew.heap.size, 0, none⟩) 1 1) rfl rfl (by rfl) (run_build_op _ rfl HS.out rfl) ⟨hS0.alloc _, ?_⟩
      (simp only [List.setIfInBounds_toArray, List.set_cons_zero, List.set_cons_succ])
      have fa0 : Fr (fun _ => False) w2 (w2.drew.alloc (.cells (cellsB s).toArray 31)) := ((Fr.refl _ w2).drew).alloc _
      have hx12' := own_keep hx12 ((Fr.refl (fun _ => False) w2.drew).alloc (.cells (cellsB s).toArray 31)) (fun _ _ q => q)
      clear hx12
      have hx12 := hx12'
      obtain ⟨v12, w12, hrun12, hrow12, f12, hge12⟩ := append_all 38 hx12 H2.out.2.2.2.2.2.2.2.2.2.2.1 H2.out.2.2.2.2.2.2.2.2.2.1 (by have := HN.out; omega)
      refine anyH_value 12 22 v12 w12 (by kernel_rfl) rfl rfl (by rfl) (run_append_op (.const (.slice none 0 0)) (.tmp 21) rfl rfl rfl hrun12) ((fa0.trans f12 (fun _ _ q => q)).mono (fun _ _ q => q.elim)) ?_
      (simp only [List.setIfInBounds_toArray, List.set_cons_zero, List.set_cons_succ])
      have fa := fa0.trans f12 (fun _ _ q => q)
      have row12 := hrow12
      have blk14 := (Blk.new w2.drew 31 (cellsB s).toArray).keep f12 (fun q => q)
      have ge12 : ∀ k, v12.ownBlock = some k → w2.heap.size ≤ k := fun k hk => Nat.le_trans fa0.size (hge12 k hk)
      obtain ⟨v15, w15, hrun15, hrow15, hg15, hvb15⟩ := append_one row12 blk14 HS.out (by have := HN.out; omega) 38
      have f15 : Fr (fun _ => False) w2 w15 := fa.grown hg15 (fun k hk => .inr (ge12 k hk))
      refine anyH_value 15 25 v15 w15 (by kernel_rfl) rfl rfl (by rfl) (run_append_op (.tmp 22) (.tmp 24) rfl rfl rfl hrun15) (f15.mono (fun _ _ q => q.elim)) ?_
      (simp only [List.setIfInBounds_toArray, List.set_cons_zero, List.set_cons_succ])
      have q0 : w15.cell? ⟨RB, i, none⟩ = some x := (f15.cell (p := ⟨RB, i, none⟩) HX2.out.2.2 (fun q => q)).trans HX2.out.1
      have q1 : w15.frozen? ⟨RB, i, none⟩ = false := (f15.frozen (p := ⟨RB, i, none⟩) HX2.out.2.2 (fun q => q)).trans HX2.out.2.1
      obtain ⟨hE1, hE2⟩ := H2.out.1.setEl (i := i) H2.out.2.2.2.2.2.2.2.2.2.2.2 H2.out.2.1 H2.out.2.2.1 H2.out.2.2.2.1 H2.out.2.2.2.2.1 H2.out.2.2.2.2.2.1 H2.out.2.2.2.2.2.2.1 f15 (x' := v15) (ss' := ss ++ [s]) (by simpa using hrow15) (by simp) (fun y hy => by
        rcases List.mem_append.1 hy with q | q
        · exact H2.out.2.2.2.2.2.2.2.2.2.2.1 y q
        · rw [List.mem_singleton.1 q]; exact HS.out)
      obtain ⟨A15, c15, hv15, _, _⟩ := own_slice hrow15
      have hS15 : Fr (fun b => b = RB) w2 w15 := f15.mono (fun _ _ q => q.elim)
      refine anyH_take 16 26 (.pointer (some ⟨RB, i, none⟩)) rfl rfl (by kernel_rfl) (by kernel_rfl) (by kernel_rfl) (fun _ _ _ h => h) (.inl ⟨by rfl, fun w'' hS => by go_simp⟩) hS15 ?_
      (simp only [List.setIfInBounds_toArray, List.set_cons_zero, List.set_cons_succ])
      have HE := Lib.hid (And.intro hE1 (And.intro hE2 (fun b (hb : v15.ownBlock = some b) => (by
        rcases hvb15 with e | e
        · rw [e] at hb
          have := ge12 b hb
          have := HF2.out.2
          omega
        · rw [e] at hb
          injection hb with hb
          have := fa.size
          have := HF2.out.2
          omega : w.heap.size ≤ b))))
      refine anyH_skip 17 (w15.setCell ⟨RB, i, none⟩ v15) (by kernel_rfl) rfl rfl (by rfl) (by rw [HXE.out] at q0; rw [hv15]; go_simp) hE2 ?_
      refine wpAnyH_done (by kernel_rfl) ?_ _
      generalize w15.setCell ⟨RB, i, none⟩ v15 = w17 at *
      have HFin := Lib.hid (HF2.out.1.trans HE.out.2.1 (fun b hb q => .inr (by have q' : b = RB := q; rw [q', HV.out.1]; rfl)))
      clear hE1 hE2 q0 q1 f15 hrun15 hrow15 hg15 hvb15 row12 blk14 ge12
      go_wp2_with fail
      go_ret
      exact ⟨rfl, ⟨_, HE.out.1, fun b hb => (rin_set (fun q => HE.out.2.2 b q) hb)⟩, HFin.out⟩
  · refine wpOp_value 24 (.slice (some ⟨w2.drew.heap.size, 0, none⟩) 1 1) rfl rfl (by rfl) (run_build_op _ rfl HS.out rfl) ⟨hS0.alloc _, ?_⟩
    (simp only [List.setIfInBounds_toArray, List.set_cons_zero, List.set_cons_succ])
    have fa0 : Fr (fun _ => False) w2 (w2.drew.alloc (.cells (cellsB s).toArray 31)) := ((Fr.refl _ w2).drew).alloc _
    have hx12 := own_keep (w := w2.drew) (F := fun _ => False) H2.out.2.2.2.2.2.2.2.2.1 ((Fr.refl (fun _ => False) w2.drew).alloc (.cells (cellsB s).toArray 31)) (fun _ _ q => q)
    have cx14 : (w2.drew.alloc (.cells (cellsB s).toArray 31)).cell? ⟨RB, i, none⟩ = some x := (fa0.cell (p := ⟨RB, i, none⟩) HX2.out.2.2 (fun q => q)).trans HX2.out.1
    refine anyH_value 11 21 x (w2.drew.alloc (.cells (cellsB s).toArray 31)) (by kernel_rfl) rfl rfl (by rfl) (by have q0 : (w2.alloc (.cells (cellsB s).toArray 31)).cell? ⟨RB, i, none⟩ = some x := cx14; rw [HXE.out] at q0; rw [HXE.out]; go_simp) (hS0.alloc _) ?_
    (simp only [List.setIfInBounds_toArray, List.set_cons_zero, List.set_cons_succ])
    obtain ⟨v12, w12, hrun12, hrow12, f12, hge12⟩ := append_all 38 hx12 H2.out.2.2.2.2.2.2.2.2.2.2.1 H2.out.2.2.2.2.2.2.2.2.2.1 (by have := HN.out; omega)
    refine anyH_value 12 22 v12 w12 (by kernel_rfl) rfl rfl (by rfl) (run_append_op (.const (.slice none 0 0)) (.tmp 21) rfl rfl rfl hrun12) ((fa0.trans f12 (fun _ _ q => q)).mono (fun _ _ q => q.elim)) ?_
    (simp only [List.setIfInBounds_toArray, List.set_cons_zero, List.set_cons_succ])
    have fa := fa0.trans f12 (fun _ _ q => q)
    have row12 := hrow12
    have blk14 := (Blk.new w2.drew 31 (cellsB s).toArray).keep f12 (fun q => q)
    have ge12 : ∀ k, v12.ownBlock = some k → w2.heap.size ≤ k := fun k hk => Nat.le_trans fa0.size (hge12 k hk)
    obtain ⟨v15, w15, hrun15, hrow15, hg15, hvb15⟩ := append_one row12 blk14 HS.out (by have := HN.out; omega) 38
    have f15 : Fr (fun _ => False) w2 w15 := fa.grown hg15 (fun k hk => .inr (ge12 k hk))
    refine anyH_value 15 25 v15 w15 (by kernel_rfl) rfl rfl (by rfl) (run_append_op (.tmp 22) (.tmp 24) rfl rfl rfl hrun15) (f15.mono (fun _ _ q => q.elim)) ?_
    (simp only [List.setIfInBounds_toArray, List.set_cons_zero, List.set_cons_succ])
    have q0 : w15.cell? ⟨RB, i, none⟩ = some x := (f15.cell (p := ⟨RB, i, none⟩) HX2.out.2.2 (fun q => q)).trans HX2.out.1
    have q1 : w15.frozen? ⟨RB, i, none⟩ = false := (f15.frozen (p := ⟨RB, i, none⟩) HX2.out.2.2 (fun q => q)).trans HX2.out.2.1
    obtain ⟨hE1, hE2⟩ := H2.out.1.setEl (i := i) H2.out.2.2.2.2.2.2.2.2.2.2.2 H2.out.2.1 H2.out.2.2.1 H2.out.2.2.2.1 H2.out.2.2.2.2.1 H2.out.2.2.2.2.2.1 H2.out.2.2.2.2.2.2.1 f15 (x' := v15) (ss' := ss ++ [s]) (by simpa using hrow15) (by simp) (fun y hy => by
      rcases List.mem_append.1 hy with q | q
      · exact H2.out.2.2.2.2.2.2.2.2.2.2.1 y q
      · rw [List.mem_singleton.1 q]; exact HS.out)
    obtain ⟨A15, c15, hv15, _, _⟩ := own_slice hrow15
    have hS15 : Fr (fun b => b = RB) w2 w15 := f15.mono (fun _ _ q => q.elim)
    refine anyH_take 16 26 (.pointer (some ⟨RB, i, none⟩)) rfl rfl (by kernel_rfl) (by kernel_rfl) (by kernel_rfl) (fun _ _ _ h => h) (.inl ⟨by rfl, fun w'' hS => by go_simp⟩) hS15 ?_
    (simp only [List.setIfInBounds_toArray, List.set_cons_zero, List.set_cons_succ])
    have HE := Lib.hid (And.intro hE1 (And.intro hE2 (fun b (hb : v15.ownBlock = some b) => (by
      rcases hvb15 with e | e
      · rw [e] at hb
        have := ge12 b hb
        have := HF2.out.2
        omega
      · rw [e] at hb
        injection hb with hb
        have := fa.size
        have := HF2.out.2
        omega : w.heap.size ≤ b))))
    refine anyH_skip 17 (w15.setCell ⟨RB, i, none⟩ v15) (by kernel_rfl) rfl rfl (by rfl) (by rw [HXE.out] at q0; rw [hv15]; go_simp) hE2 ?_
    refine wpAnyH_done (by kernel_rfl) ?_ _
    generalize w15.setCell ⟨RB, i, none⟩ v15 = w17 at *
    have HFin := Lib.hid (HF2.out.1.trans HE.out.2.1 (fun b hb q => .inr (by have q' : b = RB := q; rw [q', HV.out.1]; rfl)))
    clear hE1 hE2 q0 q1 f15 hrun15 hrow15 hg15 hvb15 row12 blk14 ge12
    go_wp2_with fail
    go_ret
    exact ⟨rfl, ⟨_, HE.out.1, fun b hb => (rin_set (fun q => HE.out.2.2 b q) hb)⟩, HFin.out⟩
end
end Go.Proofs.Ytiobmejnamdneaa
