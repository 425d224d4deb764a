/- couponlaw05.known. -/
import Derived.Test.YtijdbngjnhhheaaPat
namespace Go.Proofs.Ytijdbngjnhhheaa
open Go.RowKit

section
variable {P : Program} {ops : Array Oper} {Q : Exit → Act → World → Prop} {md : Region.Mode} {S : World → Prop}
set_option maxRecDepth 100000 in
/-- Two operations are ready: whichever comes up. -/
theorem anyH_alt (i j : Nat) {fuel : Nat} {listed : Array Bool} {T : Array Value} {ds : List Deferred} {w : World} (hr : Region.ready md ops listed = [i, j])
    (hi : wpOp P ops Q i (fun a' w' => S w' ∧ wpAnyH P md ops Q S fuel (listed.setIfInBounds i true) a' w') { tmps := T, defers := ds } w)
    (hj : wpOp P ops Q j (fun a' w' => S w' ∧ wpAnyH P md ops Q S fuel (listed.setIfInBounds j true) a' w') { tmps := T, defers := ds } w) : wpAnyH P md ops Q S (fuel + 1) listed { tmps := T, defers := ds } w := by
  refine wpAnyH_all hr (by simp) fun q hq => ?_
  simp only [List.mem_cons, List.not_mem_nil, or_false] at hq
  rcases hq with rfl | rfl
  · exact hi
  · exact hj
end
set_option maxRecDepth 100000 in
theorem page_range {w : World} {g : Nat} {L : List UInt8} (h : Blk w g 26 (cellsB L).toArray) (hl : L.length = 512) : w.rangeAt g 0 (cellsB L) := by
  have := h.range 0 512
  rwa [List.drop_zero, List.take_of_length_le (by omega)] at this
set_option maxRecDepth 100000 in
theorem make_page_bytes (W : World) (N : Nat) (z : Int) (hz : z = (N : Int)) (hN : N ≤ 1000) : ∃ W1, (Instr.makeSlice 34 (.int .i64 z) (.int .i64 z)).run Try.prog W = .ok (.slice (some ⟨W.heap.size, 0, none⟩) N N) W1 ∧ Fr (fun _ => False) W W1 ∧ Rd W1 (some ⟨W.heap.size, 0, none⟩) N (nought N) := by
  subst hz
  obtain ⟨i0, hi, hz0, hz1, hz2⟩ := info_parts infoU8p
  have h := run_make W 34 5 i0 (.int .u8 0) Try.underlying34 hi hz0 .i64 .i64 (N : Int) (N : Int) (by omega) (by omega) (by rw [hz2]; omega) (by omega)
  rw [hz1] at h
  have e : madeCells (Value.int .u8 0).cells (((N : Int).toNat) * 1) = (cellsB (nought N)).toArray := by
    apply Array.ext
    · simp [madeCells, cellsB, nought]
    · intro i h1 h2
      simp [madeCells, Value.cells, cellsB, nought, Nat.mod_one]
  rw [e] at h
  refine ⟨_, h, (Fr.refl _ _).alloc _, ?_⟩
  have hb := Blk.new W 5 (cellsB (nought N)).toArray
  have := blk_rd (o := 0) (n := N) hb (by simp [nought_len])
  have e2 : sub (nought N) 0 N = nought N := by
    unfold sub nought
    rw [List.drop_zero, List.take_replicate]
    congr 1
    omega
  rwa [e2] at this
section
variable {ops : Array Oper} {o : Oper} {a : Act} {Q : Exit → Act → World → Prop}
set_option maxRecDepth 100000 in
theorem wpList_load_want {rest : List Oper} {w : World} (hw : Region.wanted o (yielded ops a.tmps) = true) (ty : TypeId) (x : Operand) (ho : o.op = .load ty x)
    (b f : Nat) (hx : a.eval x = .pointer (some ⟨b, f, none⟩)) (cs : List Value) (d : TypeDesc) (hc : w.rangeAt b f cs) (hu : Try.prog.underlying ty = some d) (hd : d.isRow = true) (hi : (Try.prog.info? ty).map (·.size) = some cs.length)
    (h : wpList Try.prog ops Q rest (a.put o.dst (.agg cs.toArray)) w) : wpList Try.prog ops Q (o :: rest) a w :=
  BigFrame.wpList_want hw fun _ hK => wp_load_mid ty x ho b f hx cs d hc hu hd hi (hK _ _ h)
end
set_option maxRecDepth 100000 in
theorem run_make_op {P : Program} {o : Oper} {a : Act} {w w' : World} {v u : Value} (t : TypeId) (x : Operand) (ho : o.op = .makeSlice t x x) (hx : a.eval x = u) (hr : (Instr.makeSlice t u u).run P w = .ok v w') : (execOp a.eval o).run P w = .ok (.value v) w' := by
  unfold execOp
  simp only [ho, hx, Sem.run_bind, hr, Result.andThen_ok, Sem.run_pure]
set_option maxRecDepth 100000 in
theorem alloc_page (W : World) : ∃ W1, W1 = W.alloc (.cells (cellsB (nought 512)).toArray 26) ∧ Blk W1 W.heap.size 26 (cellsB (nought 512)).toArray ∧ Fr (fun _ => False) W W1 :=
  ⟨_, rfl, Blk.new _ _ _, (Fr.refl _ _).alloc _⟩
set_option maxRecDepth 100000 in
theorem empty_cells : ((cellsB (nought 512)).set 0 (Value.int .u8 0)).set 4 (Value.int .u8 2) = cellsB (PD.mk 0 0 []).bytes := by kernel_rfl
set_option maxRecDepth 100000 in
/-- What a call of New, put into a new block, leaves. -/
theorem box_page {w : World} {L : List UInt8} (hl : L.length = 512) (w' : World) (hw : w' = (w.alloc (.cells (cellsB (nought 512)).toArray 26)).setCells w.heap.size 0 (cellsB L)) : Blk w' w.heap.size 26 (cellsB L).toArray ∧ Fr (fun _ => False) w w' := by
  subst hw
  have hb := Blk.new w 26 (cellsB (nought 512)).toArray
  have hbo := hb.over (o := 0) (m := L) (by have h1 := nought_len 512; omega)
  rw [patch_all (by have h1 := nought_len 512; omega)] at hbo
  exact ⟨hbo, Fr.setCells (.inr (Nat.le_refl _)) ((Fr.refl _ _).alloc _)⟩
set_option maxRecDepth 100000 in
theorem there_new (w : World) {L : List UInt8} (hl : L.length = 512) : (w.alloc (.cells (cellsB (nought 512)).toArray 26)).there w.heap.size 0 (cellsB L).toArray.size := (Blk.new w 26 (cellsB (nought 512)).toArray).there (by simp [cellsB_len, nought_len, hl])
set_option maxRecDepth 100000 in
theorem known_any (w : World) : Calls Try.prog 9 #[] w fun e w' => e = .returned (.bool true) ∧ Fr (fun _ => False) w w' := by
  have C1 := new_any (w := w) (k := 1) (by omega)
  have ok1 : (PD.mk 1 0 []).Ok := ok_new (by omega)
  have ok2 : ((PD.mk 1 0 []).lay (nought 10)).Ok := lay_ok ok1 (by simp [nought_len]) (by rw [lay_size ok1]; simp [PD.size, tot, nought_len, firstE])
  have ok3 : (PD.mk 0 0 []).Ok := ok_new (by omega)
  have r1 : (PD.mk 1 0 []).room = 400 := by decide
  have r2 : ((PD.mk 1 0 []).lay (nought 10)).room = 400 := by decide
  have n2 : ((PD.mk 1 0 []).lay (nought 10)).s.length = 1 := rfl
  have HL0 : ∀ W A, Rd W A 10 (nought 10) → Calls Try.prog 16 #[av (PD.mk 1 0 []).bytes, .slice A 10 10] W fun e w' => e = .returned (.tuple #[av ((PD.mk 1 0 []).lay (nought 10)).bytes, .int .i64 0, .int .i64 0]) ∧ Fr (fun _ => False) W w' := fun W A hr => lay_any ok1 hr (by omega) (by rw [lay_size ok1]; simp [PD.size, tot, nought_len, firstE])
  have R1 : ∀ W, Calls Try.prog 20 #[av (PD.mk 1 0 []).bytes] W _ := fun W => Room_any ok1
  have R2 : ∀ W, Calls Try.prog 20 #[av ((PD.mk 1 0 []).lay (nought 10)).bytes] W _ := fun W => Room_any ok2
  have R3 : ∀ W, Calls Try.prog 14 #[av ((PD.mk 1 0 []).lay (nought 10)).bytes] W _ := fun W => Slots_any ok2
  have R4 : ∀ W, Calls Try.prog 11 #[.agg (((cellsB (nought 512)).set 0 (Value.int .u8 0)).set 4 (Value.int .u8 2)).toArray] W fun e w' => e = .returned (.bool true) ∧ Fr (fun _ => False) W w' := fun W => by rw [empty_cells]; exact May_any ok3
  have hl1 := ok1.len
  have hl2 := ok2.len
  rw [r1] at R1
  rw [r2] at R2
  rw [n2] at R3
  generalize ((PD.mk 1 0 []).lay (nought 10)).bytes = L2 at *
  generalize (PD.mk 1 0 []).bytes = L1 at *
  have HR1 := Lib.hid R1
  have HR2 := Lib.hid R2
  have HR3 := Lib.hid R3
  have HR4 := Lib.hid R4
  have hup := Try.underlying26
  clear ok1 ok2 ok3 r1 r2 n2 R1 R2 R3 R4
  go_enter Try.func9, Try.ntmps9
  go_wp2_with fail
  refine C1.mono ?_
  rintro e w1 ⟨rfl, f1⟩
  clear C1
  go_upto_region 2 with (first | (refine wpList_zero rfl 26 rfl zeroPage ?_) | (refine wpList_store_mid rfl 26 _ _ rfl w1.heap.size 0 (cellsB L1).toArray rfl rfl (there_new w1 hl1) (by rw [infoPage]; simp [cellsB_len, hl1]) (all_oneCell_toArray (cellsB_one _)) ?_))
  obtain ⟨w2, hw2⟩ : ∃ w2, w2 = (w1.alloc (.cells (cellsB (nought 512)).toArray 26)).setCells w1.heap.size 0 (cellsB L1) := ⟨_, rfl⟩
  have hbx := box_page hl1 w2 hw2
  have HB1 := Lib.hid hbx.1
  have HF2 := Lib.hid (f1.trans hbx.2 (fun _ _ q => q))
  have HL : Hid (∀ W, Fr (fun _ => False) w2 W → ∀ A, Rd W A 10 (nought 10) → _) := Lib.hid fun W _ A hr => HL0 W A hr
  clear HL0 hbx f1
  rw [← hw2]
  clear hw2
  go_cut [3, 4, 5] (fun s3 s4 s5 wx => ∃ g : Nat, s3 = .pointer (some ⟨g, 0, none⟩) ∧ s4 = .int .i64 0 ∧ s5 = .int .i64 0 ∧ Hid (Blk wx g 26 (cellsB L2).toArray) ∧ Hid (Fr (fun _ => False) w2 wx))
  case first =>
    refine wp_region_held_drew (S := fun w' => Fr (fun _ => False) w2 w') (by kernel_rfl) ((Fr.refl _ _).drew) (fun hS0 => ?_)
    refine anyH_take 0 11 (av L1) rfl rfl (by kernel_rfl) (by kernel_rfl) (by kernel_rfl) (fun _ _ _ h => h) (yieldsIf_load_mid (by rfl) _ _ rfl _ _ rfl _ _ (fun w' f => page_range (HB1.out.keep f (fun q => q)) hl1) hup rfl (by rw [infoPage, cellsB_len, hl1])) hS0 ?_
    (simp only [List.setIfInBounds_toArray, List.set_cons_zero, List.set_cons_succ])
    refine anyH_alt 1 7 (by kernel_rfl) ?_ ?_
    · obtain ⟨W1, hm1, f1, r1⟩ := make_page_bytes w2.drew 10 10 rfl (by omega)
      have g1 : Fr (fun _ => False) w2 W1 := hS0.trans f1 (fun _ _ q => q)
      refine wpOp_value 12 _ rfl rfl (by rfl) (run_make_op 34 _ rfl rfl hm1) ⟨g1, ?_⟩
      (simp only [List.setIfInBounds_toArray, List.set_cons_zero, List.set_cons_succ])
      refine anyH_alt 2 7 (by kernel_rfl) ?_ ?_
      · refine wpOp_call 13 rfl rfl (by rfl) (by go_simp) (((HL.out _ g1 _ r1)).mono ?_)
        rintro e wl ⟨rfl, fl⟩
        refine ⟨_, rfl, (g1.trans fl (fun _ _ q => q)), ?_⟩
        (simp only [List.setIfInBounds_toArray, List.set_cons_zero, List.set_cons_succ])
        have hSl : Fr (fun _ => False) w2 wl := g1.trans fl (fun _ _ q => q)
        refine anyH_take 3 10 (.tuple #[av L2, (.int .i64 0), (.int .i64 0)]) rfl rfl (by kernel_rfl) (by kernel_rfl) (by kernel_rfl) (fun _ _ _ h => h) (.inl ⟨by rfl, fun w'' hS => by go_simp⟩) hSl ?_
        (simp only [List.setIfInBounds_toArray, List.set_cons_zero, List.set_cons_succ])
        refine anyH_take 4 14 (av L2) rfl rfl (by kernel_rfl) (by kernel_rfl) (by kernel_rfl) (fun _ _ _ h => h) (.inl ⟨by rfl, fun w'' hS => by go_simp⟩) hSl ?_
        (simp only [List.setIfInBounds_toArray, List.set_cons_zero, List.set_cons_succ])
        refine anyH_take 5 15 (.int .i64 0) rfl rfl (by kernel_rfl) (by kernel_rfl) (by kernel_rfl) (fun _ _ _ h => h) (.inl ⟨by rfl, fun w'' hS => by go_simp⟩) hSl ?_
        (simp only [List.setIfInBounds_toArray, List.set_cons_zero, List.set_cons_succ])
        refine anyH_take 6 16 (.int .i64 0) rfl rfl (by kernel_rfl) (by kernel_rfl) (by kernel_rfl) (fun _ _ _ h => h) (.inl ⟨by rfl, fun w'' hS => by go_simp⟩) hSl ?_
        (simp only [List.setIfInBounds_toArray, List.set_cons_zero, List.set_cons_succ])
        obtain ⟨W3, ha3, b3, f3⟩ := alloc_page wl
        have hSt : Fr (fun _ => False) w2 W3 := hSl.trans f3 (fun _ _ q => q)
        have hge : w2.heap.size ≤ wl.heap.size := hSl.size
        refine anyH_value 7 3 _ W3 (by kernel_rfl) rfl rfl (by rfl) (by rw [ha3]; exact run_zero_op 26 rfl zeroPage) hSt ?_
        (simp only [List.setIfInBounds_toArray, List.set_cons_zero, List.set_cons_succ])
        clear ha3
        refine anyH_skip 8 _ (by kernel_rfl) rfl rfl (by rfl) (run_store_mid 26 _ _ rfl wl.heap.size 0 (cellsB L2).toArray rfl rfl (b3.there (by simp [cellsB_len, nought_len, hl2])) (by rw [infoPage]; simp [cellsB_len, hl2]) (all_oneCell_toArray (cellsB_one _))) (Fr.setCells (.inr hge) hSt) ?_
        have hSe := Fr.setCells (F := fun _ => False) (b := wl.heap.size) (vs := cellsB L2) (o := 0) (.inr hge) hSt
        refine anyH_take 9 4 (.int .i64 0) rfl rfl (by kernel_rfl) (by kernel_rfl) (by kernel_rfl) (fun _ _ _ h => h) (.inl ⟨by rfl, fun w'' hS => by go_simp⟩) hSe ?_
        (simp only [List.setIfInBounds_toArray, List.set_cons_zero, List.set_cons_succ])
        refine anyH_take 10 5 (.int .i64 0) rfl rfl (by kernel_rfl) (by kernel_rfl) (by kernel_rfl) (fun _ _ _ h => h) (.inl ⟨by rfl, fun w'' hS => by go_simp⟩) hSe ?_
        (simp only [List.setIfInBounds_toArray, List.set_cons_zero, List.set_cons_succ])
        refine wpAnyH_done (by kernel_rfl) ?_ _
        have hbo := b3.over (o := 0) (m := L2) (by have h1 := nought_len 512; have h2 := hl2; omega)
        rw [patch_all (by have h1 := nought_len 512; have h2 := hl2; omega)] at hbo
        go_wp2_with fail
        go_meet
        exact ⟨wl.heap.size, rfl, rfl, rfl, Lib.hid hbo, Lib.hid hSe⟩
      · obtain ⟨W3, ha3, b3, f3⟩ := alloc_page W1
        have g3 : Fr (fun _ => False) w2 W3 := g1.trans f3 (fun _ _ q => q)
        have hge : w2.heap.size ≤ W1.heap.size := g1.size
        refine wpOp_value 3 _ rfl rfl (by rfl) (by rw [ha3]; exact run_zero_op 26 rfl zeroPage) ⟨g3, ?_⟩
        (simp only [List.setIfInBounds_toArray, List.set_cons_zero, List.set_cons_succ])
        clear ha3
        have r3 := r1.keep f3 (fun _ _ q => q)
        refine anyH_enter 2 13 (by kernel_rfl) rfl rfl (by rfl) (by go_simp) ((HL.out _ g3 _ r3).mono ?_)
        rintro e wl ⟨rfl, fl⟩
        have hSt : Fr (fun _ => False) w2 wl := g3.trans fl (fun _ _ q => q)
        refine ⟨_, rfl, hSt, ?_⟩
        (simp only [List.setIfInBounds_toArray, List.set_cons_zero, List.set_cons_succ])
        have b4 := b3.keep fl (fun q => q)
        refine anyH_take 3 10 (.tuple #[av L2, (.int .i64 0), (.int .i64 0)]) rfl rfl (by kernel_rfl) (by kernel_rfl) (by kernel_rfl) (fun _ _ _ h => h) (.inl ⟨by rfl, fun w'' hS => by go_simp⟩) hSt ?_
        (simp only [List.setIfInBounds_toArray, List.set_cons_zero, List.set_cons_succ])
        refine anyH_take 4 14 (av L2) rfl rfl (by kernel_rfl) (by kernel_rfl) (by kernel_rfl) (fun _ _ _ h => h) (.inl ⟨by rfl, fun w'' hS => by go_simp⟩) hSt ?_
        (simp only [List.setIfInBounds_toArray, List.set_cons_zero, List.set_cons_succ])
        refine anyH_take 5 15 (.int .i64 0) rfl rfl (by kernel_rfl) (by kernel_rfl) (by kernel_rfl) (fun _ _ _ h => h) (.inl ⟨by rfl, fun w'' hS => by go_simp⟩) hSt ?_
        (simp only [List.setIfInBounds_toArray, List.set_cons_zero, List.set_cons_succ])
        refine anyH_take 6 16 (.int .i64 0) rfl rfl (by kernel_rfl) (by kernel_rfl) (by kernel_rfl) (fun _ _ _ h => h) (.inl ⟨by rfl, fun w'' hS => by go_simp⟩) hSt ?_
        (simp only [List.setIfInBounds_toArray, List.set_cons_zero, List.set_cons_succ])
        refine anyH_skip 8 _ (by kernel_rfl) rfl rfl (by rfl) (run_store_mid 26 _ _ rfl W1.heap.size 0 (cellsB L2).toArray rfl rfl (b4.there (by simp [cellsB_len, nought_len, hl2])) (by rw [infoPage]; simp [cellsB_len, hl2]) (all_oneCell_toArray (cellsB_one _))) (Fr.setCells (.inr hge) hSt) ?_
        have hSe := Fr.setCells (F := fun _ => False) (b := W1.heap.size) (vs := cellsB L2) (o := 0) (.inr hge) hSt
        refine anyH_take 9 4 (.int .i64 0) rfl rfl (by kernel_rfl) (by kernel_rfl) (by kernel_rfl) (fun _ _ _ h => h) (.inl ⟨by rfl, fun w'' hS => by go_simp⟩) hSe ?_
        (simp only [List.setIfInBounds_toArray, List.set_cons_zero, List.set_cons_succ])
        refine anyH_take 10 5 (.int .i64 0) rfl rfl (by kernel_rfl) (by kernel_rfl) (by kernel_rfl) (fun _ _ _ h => h) (.inl ⟨by rfl, fun w'' hS => by go_simp⟩) hSe ?_
        (simp only [List.setIfInBounds_toArray, List.set_cons_zero, List.set_cons_succ])
        refine wpAnyH_done (by kernel_rfl) ?_ _
        have hbo := b4.over (o := 0) (m := L2) (by have h1 := nought_len 512; have h2 := hl2; omega)
        rw [patch_all (by have h1 := nought_len 512; have h2 := hl2; omega)] at hbo
        go_wp2_with fail
        go_meet
        exact ⟨W1.heap.size, rfl, rfl, rfl, Lib.hid hbo, Lib.hid hSe⟩
    · obtain ⟨W3, ha3, b3, f3⟩ := alloc_page w2.drew
      have g3 : Fr (fun _ => False) w2 W3 := hS0.trans f3 (fun _ _ q => q)
      have hge : w2.heap.size ≤ w2.drew.heap.size := hS0.size
      refine wpOp_value 3 _ rfl rfl (by rfl) (by rw [ha3]; exact run_zero_op 26 rfl zeroPage) ⟨g3, ?_⟩
      (simp only [List.setIfInBounds_toArray, List.set_cons_zero, List.set_cons_succ])
      clear ha3
      obtain ⟨W1, hm1, f1, r1⟩ := make_page_bytes W3 10 10 rfl (by omega)
      have g1 : Fr (fun _ => False) w2 W1 := g3.trans f1 (fun _ _ q => q)
      refine anyH_value 1 12 _ W1 (by kernel_rfl) rfl rfl (by rfl) (run_make_op 34 _ rfl rfl hm1) g1 ?_
      (simp only [List.setIfInBounds_toArray, List.set_cons_zero, List.set_cons_succ])
      refine anyH_enter 2 13 (by kernel_rfl) rfl rfl (by rfl) (by go_simp) ((HL.out _ g1 _ r1).mono ?_)
      rintro e wl ⟨rfl, fl⟩
      have hSt : Fr (fun _ => False) w2 wl := g1.trans fl (fun _ _ q => q)
      refine ⟨_, rfl, hSt, ?_⟩
      (simp only [List.setIfInBounds_toArray, List.set_cons_zero, List.set_cons_succ])
      have b4 := (b3.keep f1 (fun q => q)).keep fl (fun q => q)
      refine anyH_take 3 10 (.tuple #[av L2, (.int .i64 0), (.int .i64 0)]) rfl rfl (by kernel_rfl) (by kernel_rfl) (by kernel_rfl) (fun _ _ _ h => h) (.inl ⟨by rfl, fun w'' hS => by go_simp⟩) hSt ?_
      (simp only [List.setIfInBounds_toArray, List.set_cons_zero, List.set_cons_succ])
      refine anyH_take 4 14 (av L2) rfl rfl (by kernel_rfl) (by kernel_rfl) (by kernel_rfl) (fun _ _ _ h => h) (.inl ⟨by rfl, fun w'' hS => by go_simp⟩) hSt ?_
      (simp only [List.setIfInBounds_toArray, List.set_cons_zero, List.set_cons_succ])
      refine anyH_take 5 15 (.int .i64 0) rfl rfl (by kernel_rfl) (by kernel_rfl) (by kernel_rfl) (fun _ _ _ h => h) (.inl ⟨by rfl, fun w'' hS => by go_simp⟩) hSt ?_
      (simp only [List.setIfInBounds_toArray, List.set_cons_zero, List.set_cons_succ])
      refine anyH_take 6 16 (.int .i64 0) rfl rfl (by kernel_rfl) (by kernel_rfl) (by kernel_rfl) (fun _ _ _ h => h) (.inl ⟨by rfl, fun w'' hS => by go_simp⟩) hSt ?_
      (simp only [List.setIfInBounds_toArray, List.set_cons_zero, List.set_cons_succ])
      refine anyH_skip 8 _ (by kernel_rfl) rfl rfl (by rfl) (run_store_mid 26 _ _ rfl w2.drew.heap.size 0 (cellsB L2).toArray rfl rfl (b4.there (by simp [cellsB_len, nought_len, hl2])) (by rw [infoPage]; simp [cellsB_len, hl2]) (all_oneCell_toArray (cellsB_one _))) (Fr.setCells (.inr hge) hSt) ?_
      have hSe := Fr.setCells (F := fun _ => False) (b := w2.drew.heap.size) (vs := cellsB L2) (o := 0) (.inr hge) hSt
      refine anyH_take 9 4 (.int .i64 0) rfl rfl (by kernel_rfl) (by kernel_rfl) (by kernel_rfl) (fun _ _ _ h => h) (.inl ⟨by rfl, fun w'' hS => by go_simp⟩) hSe ?_
      (simp only [List.setIfInBounds_toArray, List.set_cons_zero, List.set_cons_succ])
      refine anyH_take 10 5 (.int .i64 0) rfl rfl (by kernel_rfl) (by kernel_rfl) (by kernel_rfl) (fun _ _ _ h => h) (.inl ⟨by rfl, fun w'' hS => by go_simp⟩) hSe ?_
      (simp only [List.setIfInBounds_toArray, List.set_cons_zero, List.set_cons_succ])
      refine wpAnyH_done (by kernel_rfl) ?_ _
      have hbo := b4.over (o := 0) (m := L2) (by have h1 := nought_len 512; have h2 := hl2; omega)
      rw [patch_all (by have h1 := nought_len 512; have h2 := hl2; omega)] at hbo
      go_wp2_with fail
      go_meet
      exact ⟨w2.drew.heap.size, rfl, rfl, rfl, Lib.hid hbo, Lib.hid hSe⟩
  case rest =>
    obtain ⟨g, rfl, rfl, rfl, HB2, HF3⟩ := hcut
    have HG : Hid (∀ W, Fr (fun _ => False) wc W → W.rangeAt w1.heap.size 0 (cellsB L1) ∧ W.rangeAt g 0 (cellsB L2)) := Lib.hid fun W f => ⟨page_range ((HB1.out.keep HF3.out (fun q => q)).keep f (fun q => q)) hl1, page_range (HB2.out.keep f (fun q => q)) hl2⟩
    have hsz1 : (Try.prog.info? 26).map (·.size) = some (cellsB L1).length := by rw [infoPage, cellsB_len, hl1]
    have hsz2 : (Try.prog.info? 26).map (·.size) = some (cellsB L2).length := by rw [infoPage, cellsB_len, hl2]
    have q0 := Lib.hid (HG.out wc (Fr.refl _ _)).1
    have HFa := Lib.hid (HF2.out.trans HF3.out (fun _ _ q => q))
    clear HL HB1 HB2 HF2 HF3
    go_wp2_with (refine wpList_load_want (by rfl) 26 _ rfl w1.heap.size 0 rfl (cellsB L1) _ q0.out hup rfl hsz1 ?_)
    refine (HR1.out _).mono ?_
    rintro e w4 ⟨rfl, f4⟩
    have q1 := Lib.hid (HG.out w4 f4).2
    have HF4 := Lib.hid f4
    clear q0 f4 HR1
    go_wp2_with (refine wpList_load_want (by rfl) 26 _ rfl g 0 rfl (cellsB L2) _ q1.out hup rfl hsz2 ?_)
    refine (HR2.out _).mono ?_
    rintro e w5 ⟨rfl, f5⟩
    have HF5 := Lib.hid (HF4.out.trans f5 (fun _ _ q => q))
    have q2 := Lib.hid (HG.out w5 HF5.out).2
    clear q1 f5 HF4 HR2
    go_wp2_with (refine wpList_load_want (by rfl) 26 _ rfl g 0 rfl (cellsB L2) _ q2.out hup rfl hsz2 ?_)
    refine (HR3.out _).mono ?_
    rintro e w6 ⟨rfl, f6⟩
    have HF6 := Lib.hid (HF5.out.trans f6 (fun _ _ q => q))
    have hzv := zeroPage
    clear q2 f6 HF5 HR3 HG
    go_wp2_with fail
    refine (HR4.out _).mono ?_
    rintro e w7 ⟨rfl, f7⟩
    have HF7 := Lib.hid (HF6.out.trans f7 (fun _ _ q => q))
    clear f7 HF6 HR4
    go_wp2_with fail
    go_ret
    exact ⟨rfl, HFa.out.trans HF7.out (fun _ _ q => q)⟩
end Go.Proofs.Ytijdbngjnhhheaa
