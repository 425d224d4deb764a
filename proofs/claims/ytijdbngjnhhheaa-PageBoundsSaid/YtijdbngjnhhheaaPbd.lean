/- couponlaw05.PageBounds. -/
import Derived.Test.YtijdbngjnhhheaaPkn
namespace Go.Proofs.Ytijdbngjnhhheaa
open Go.RowKit

/-- Pages of so many records of no bytes. -/
def QP (k : Nat) : PD := ⟨4, 0, List.replicate k (some [])⟩
set_option maxRecDepth 100000 in
theorem tot_rep : ∀ k, tot (List.replicate k (some [])) = 0
  | 0 => rfl
  | k + 1 => by simp [List.replicate_succ, tot, tot_rep k, rl]
set_option maxRecDepth 100000 in
theorem firstE_rep : ∀ k, firstE (List.replicate k (some [])) = k
  | 0 => rfl
  | k + 1 => by simp [List.replicate_succ, firstE, firstE_rep k]
set_option maxRecDepth 100000 in
theorem QP_ok {k : Nat} (h : k ≤ 125) : (QP k).Ok :=
  ⟨by simp [QP], by simp [QP], by simp [QP, tot_rep]; omega, fun b hb => by
    simp only [QP, List.mem_replicate, Option.some.injEq] at hb
    simp [hb.2], fun i hi => ⟨[], by
    simp only [QP, List.length_replicate] at hi ⊢
    rw [List.getElem?_replicate, if_pos (by omega)]⟩⟩
set_option maxRecDepth 100000 in
theorem QP_lay (k : Nat) : (QP k).lay [] = QP (k + 1) := by
  unfold QP PD.lay
  simp only [firstE_rep, putS, List.length_replicate, Nat.lt_irrefl, if_false]
  rw [← List.replicate_succ']
set_option maxRecDepth 100000 in
theorem QP_size {k : Nat} (h : k ≤ 125) : (QP k).size ≤ 512 := (QP_ok h).sz
set_option maxRecDepth 100000 in
theorem QP_room : (QP 125).room = -1 := by
  unfold PD.room QP
  rw [tot_rep, firstE_rep, List.length_replicate]
  rfl
set_option maxRecDepth 100000 in
/-- What the law calls, of which pages. -/
theorem bounds_calls : ∃ (QL : Nat → List UInt8) (L3 L6 L15 LD LE : List UInt8), (∀ k, k ≤ 125 → (QL k).length = 512) ∧ L3.length = 512 ∧ L6.length = 512 ∧ L15.length = 512 ∧ LD.length = 512 ∧ LE.length = 512 ∧
    (∀ W, Calls Try.prog 13 #[.int .i64 4] W fun e w' => e = .returned (.tuple #[av (QL 0), .int .i64 0]) ∧ Fr (fun _ => False) W w') ∧
    (∀ W A, Rd W A 400 (nought 400) → Calls Try.prog 16 #[av (QL 0), .slice A 400 400] W fun e w' => e = .returned (.tuple #[av L3, .int .i64 0, .int .i64 0]) ∧ Fr (fun _ => False) W w') ∧
    (∀ W A, Rd W A 92 (nought 92) → Calls Try.prog 16 #[av L3, .slice A 92 92] W fun e w' => e = .returned (.tuple #[av L6, .int .i64 1, .int .i64 0]) ∧ Fr (fun _ => False) W w') ∧
    (∀ W, Calls Try.prog 16 #[av L6, .slice none 0 0] W fun e w' => e = .returned (.tuple #[av (nought 512), .int .i64 0, .int .i64 8]) ∧ Fr (fun _ => False) W w') ∧
    (∀ W A, Rd W A 93 (nought 93) → Calls Try.prog 16 #[av L3, .slice A 93 93] W fun e w' => e = .returned (.tuple #[av (nought 512), .int .i64 0, .int .i64 8]) ∧ Fr (fun _ => False) W w') ∧
    (∀ W, Calls Try.prog 18 #[av (QL 0), .int .i64 2147483647] W fun e w' => e = .returned (.tuple #[av L15, .int .i64 0]) ∧ Fr (fun _ => False) W w') ∧
    (∀ W, Calls Try.prog 18 #[av (QL 0), .int .i64 2147483648] W fun e w' => e = .returned (.tuple #[av (nought 512), .int .i64 2]) ∧ Fr (fun _ => False) W w') ∧
    (∀ W, Calls Try.prog 20 #[av L6] W fun e w' => e = .returned (.int .i64 (-1)) ∧ Fr (fun _ => False) W w') ∧
    (∀ W, Calls Try.prog 20 #[av L3] W fun e w' => e = .returned (.int .i64 92) ∧ Fr (fun _ => False) W w') ∧
    (∀ k, k < 125 → ∀ W, Calls Try.prog 16 #[av (QL k), .slice none 0 0] W fun e w' => e = .returned (.tuple #[av (QL (k + 1)), .int .i64 (k : Nat), .int .i64 0]) ∧ Fr (fun _ => False) W w') ∧
    (∀ W, Calls Try.prog 16 #[av (QL 125), .slice none 0 0] W fun e w' => e = .returned (.tuple #[av (nought 512), .int .i64 0, .int .i64 8]) ∧ Fr (fun _ => False) W w') ∧
    (∀ W, Calls Try.prog 17 #[av (QL 125), .int .i64 60] W fun e w' => e = .returned (.tuple #[av LD, .int .i64 0]) ∧ Fr (fun _ => False) W w') ∧
    (∀ W, Calls Try.prog 16 #[av LD, .slice none 0 0] W fun e w' => e = .returned (.tuple #[av LE, .int .i64 60, .int .i64 0]) ∧ Fr (fun _ => False) W w') ∧
    (∀ W, Calls Try.prog 20 #[av (QL 125)] W fun e w' => e = .returned (.int .i64 (-1)) ∧ Fr (fun _ => False) W w') ∧
    (∀ W, Calls Try.prog 14 #[av (QL 125)] W fun e w' => e = .returned (.int .i64 125) ∧ Fr (fun _ => False) W w') ∧
    (∀ W, Calls Try.prog 20 #[av LD] W fun e w' => e = .returned (.int .i64 0) ∧ Fr (fun _ => False) W w') := by
  have k0 : (QP 0).Ok := QP_ok (by omega)
  have r3 : ((QP 0).lay (nought 400)).room = 92 := by decide +kernel
  have k3 : ((QP 0).lay (nought 400)).Ok := lay_ok k0 (by simp [nought_len]) (by decide +kernel)
  have r6 : (((QP 0).lay (nought 400)).lay (nought 92)).room = -1 := by decide +kernel
  have k6 : (((QP 0).lay (nought 400)).lay (nought 92)).Ok := lay_ok k3 (by simp [nought_len]) (by decide +kernel)
  have k15 : ((QP 0).link 2147483647).Ok := link_ok k0 (by omega)
  have kQ : (QP 125).Ok := QP_ok (by omega)
  have i60 : (QP 125).s[60]? = some (some []) := by decide +kernel
  have kD : ((QP 125).drop 60).Ok := drop_ok kQ i60
  have rD : ((QP 125).drop 60).room = 0 := by decide +kernel
  have kE : (((QP 125).drop 60).lay []).Ok := lay_ok kD (by simp) (by decide +kernel)
  have rQ := QP_room
  have R6 : ∀ W, Calls Try.prog 20 #[av (((QP 0).lay (nought 400)).lay (nought 92)).bytes] W _ := fun W => Room_any k6
  have R3 : ∀ W, Calls Try.prog 20 #[av ((QP 0).lay (nought 400)).bytes] W _ := fun W => Room_any k3
  have RQ : ∀ W, Calls Try.prog 20 #[av (QP 125).bytes] W _ := fun W => Room_any kQ
  have RD : ∀ W, Calls Try.prog 20 #[av ((QP 125).drop 60).bytes] W _ := fun W => Room_any kD
  have SQ : ∀ W, Calls Try.prog 14 #[av (QP 125).bytes] W _ := fun W => Slots_any kQ
  have hsq : (QP 125).s.length = 125 := by simp [QP]
  rw [r6] at R6
  rw [r3] at R3
  rw [rQ] at RQ
  rw [rD] at RD
  rw [hsq] at SQ
  refine ⟨fun k => (QP k).bytes, ((QP 0).lay (nought 400)).bytes, (((QP 0).lay (nought 400)).lay (nought 92)).bytes, ((QP 0).link 2147483647).bytes, ((QP 125).drop 60).bytes, (((QP 125).drop 60).lay []).bytes, fun k h => (QP_ok h).len, k3.len, k6.len, k15.len, kD.len, kE.len,
    fun W => new_any (w := W) (k := 4) (by omega), fun W A hr => lay_any k0 hr (by omega) (by decide +kernel), fun W A hr => lay_any k3 hr (by omega) (by decide +kernel),
    fun W => lay_full k6 (by omega) (by rw [r6]; omega), fun W A hr => lay_full k3 (by omega) (by rw [r3]; omega), fun W => link_any k0 (m := 2147483647) (by omega), fun W => link_no k0 (by omega), R6, R3, fun k hk W => ?_,
    fun W => lay_full kQ (by omega) (by rw [rQ]; omega), fun W => take_any kQ (i := 60) i60, fun W => ?_, RQ, SQ, RD⟩
  · have := lay_any (w := W) (c := 0) (QP_ok (k := k) (by omega)) (Rd.nil W none) (by omega) (by rw [QP_lay]; exact QP_size (by omega))
    rw [QP_lay] at this
    have e : firstE (QP k).s = k := firstE_rep k
    rw [e] at this
    exact this
  · have := lay_any (w := W) (c := 0) kD (Rd.nil W none) (by omega) (by decide +kernel)
    have e : firstE ((QP 125).drop 60).s = 60 := by decide +kernel
    rw [e] at this
    exact this
set_option maxRecDepth 100000 in
set_option maxHeartbeats 4000000 in
theorem bounds_any (w : World) : Calls Try.prog 6 #[] w fun e w' => e = .returned (.bool true) ∧ Fr (fun _ => False) w w' := by
  obtain ⟨QL, L3, L6, L15, LD, LE, hlq, hl3, hl6, hl15, hlD, hlE, C1, c2, c3, c4, c5, c6, c7, c8, c9, c10, c11, c12, c13, c14, c15, c16⟩ := bounds_calls
  have KN : Hid (∀ W, Calls Try.prog 9 #[] W fun e w' => e = .returned (.bool true) ∧ Fr (fun _ => False) W w') := Lib.hid known_any
  obtain ⟨LZ, hLZ⟩ : ∃ L, L = nought 512 := ⟨_, rfl⟩
  have hlz : LZ.length = 512 := by rw [hLZ]; exact nought_len 512
  rw [← hLZ] at c4 c5 c7 c11
  clear hLZ
  have H2 := Lib.hid c2
  have H3 := Lib.hid c3
  have H4 := Lib.hid c4
  have H5 := Lib.hid c5
  have H6 := Lib.hid c6
  have H7 := Lib.hid c7
  have H8 := Lib.hid c8
  have H9 := Lib.hid c9
  have H10 := Lib.hid c10
  have H11 := Lib.hid c11
  have H12 := Lib.hid c12
  have H13 := Lib.hid c13
  have H14 := Lib.hid c14
  have H15 := Lib.hid c15
  have H16 := Lib.hid c16
  clear c2 c3 c4 c5 c6 c7 c8 c9 c10 c11 c12 c13 c14 c15 c16
  obtain ⟨L1, hL1⟩ : ∃ L, L = QL 0 := ⟨_, rfl⟩
  have HLQ := Lib.hid (And.intro hlq hL1)
  have hl1 : L1.length = 512 := by rw [hL1]; exact hlq 0 (by omega)
  have hln := nought_len 512
  have C1w := C1 w
  rw [← hL1] at C1w H2 H6 H7
  clear C1 hlq hL1
  have hup := Try.underlying26
  have hsz : ∀ L : List UInt8, L.length = 512 → (Try.prog.info? 26).map (·.size) = some (cellsB L).length := fun L h => by rw [infoPage, cellsB_len, h]
  have hs1 := hsz L1 hl1
  have hs3 := hsz L3 hl3
  have hs6 := hsz L6 hl6
  have hsD := hsz LD hlD
  have HSZ := Lib.hid hsz
  clear hsz
  go_enter Try.func6, Try.ntmps6
  go_wp2_with fail
  refine C1w.mono ?_
  rintro e w1 ⟨rfl, f1⟩
  have HG1 := Lib.hid f1.size
  clear C1w
  go_upto_region 2 with (first | (refine wpList_zero rfl 26 rfl zeroPage ?_) | (refine wpList_store_mid rfl 26 _ _ rfl w1.heap.size 0 (cellsB L1).toArray rfl rfl (there_new w1 hl1) (by rw [infoPage]; simp [cellsB_len, hl1]) (all_oneCell_toArray (cellsB_one _)) ?_))
  obtain ⟨w2, hwx⟩ : ∃ X, X = (w1.alloc (.cells (cellsB (nought 512)).toArray 26)).setCells w1.heap.size 0 (cellsB L1) := ⟨_, rfl⟩
  have hbx := box_page hl1 w2 hwx
  have HB1 := Lib.hid hbx.1
  have HF2 := Lib.hid (f1.trans hbx.2 (fun _ _ q => q))
  have HL : Hid (∀ W, Fr (fun _ => False) w2 W → ∀ A, Rd W A 400 (nought 400) → _) := Lib.hid fun W _ A hr => H2.out W A hr
  clear hbx f1
  rw [← hwx]
  clear hwx H2
  go_cut [3, 4, 5] (fun s3 s4 s5 wx => ∃ g : Nat, s3 = .pointer (some ⟨g, 0, none⟩) ∧ s4 = .int .i64 0 ∧ s5 = .int .i64 0 ∧ Hid (Blk wx g 26 (cellsB L3).toArray) ∧ Hid (Fr (fun _ => False) w2 wx))
  case first =>
    refine wp_region_held_drew (S := fun w' => Fr (fun _ => False) w2 w') (by kernel_rfl) ((Fr.refl _ _).drew) (fun hS0 => ?_)
    refine anyH_take 0 36 (av L1) rfl rfl (by kernel_rfl) (by kernel_rfl) (by kernel_rfl) (fun _ _ _ h => h) (yieldsIf_load_mid (by rfl) _ _ rfl _ _ rfl _ _ (fun w' f => page_range (HB1.out.keep f (fun q => q)) hl1) hup rfl (by rw [infoPage, cellsB_len, hl1])) hS0 ?_
    (simp only [List.setIfInBounds_toArray, List.set_cons_zero, List.set_cons_succ])
    refine anyH_alt 1 7 (by kernel_rfl) ?_ ?_
    · obtain ⟨W1, hm1, f1, r1⟩ := make_page_bytes w2.drew 400 400 rfl (by omega)
      have g1 : Fr (fun _ => False) w2 W1 := hS0.trans f1 (fun _ _ q => q)
      refine wpOp_value 37 _ rfl rfl (by rfl) (run_make_op 34 _ rfl rfl hm1) ⟨g1, ?_⟩
      (simp only [List.setIfInBounds_toArray, List.set_cons_zero, List.set_cons_succ])
      refine anyH_alt 2 7 (by kernel_rfl) ?_ ?_
      · refine wpOp_call 38 rfl rfl (by rfl) (by go_simp) (((HL.out _ g1 _ r1)).mono ?_)
        rintro e wl ⟨rfl, fl⟩
        refine ⟨_, rfl, (g1.trans fl (fun _ _ q => q)), ?_⟩
        (simp only [List.setIfInBounds_toArray, List.set_cons_zero, List.set_cons_succ])
        have hSl : Fr (fun _ => False) w2 wl := g1.trans fl (fun _ _ q => q)
        refine anyH_take 3 35 (.tuple #[av L3, (.int .i64 0), (.int .i64 0)]) rfl rfl (by kernel_rfl) (by kernel_rfl) (by kernel_rfl) (fun _ _ _ h => h) (.inl ⟨by rfl, fun w'' hS => by go_simp⟩) hSl ?_
        (simp only [List.setIfInBounds_toArray, List.set_cons_zero, List.set_cons_succ])
        refine anyH_take 4 39 (av L3) rfl rfl (by kernel_rfl) (by kernel_rfl) (by kernel_rfl) (fun _ _ _ h => h) (.inl ⟨by rfl, fun w'' hS => by go_simp⟩) hSl ?_
        (simp only [List.setIfInBounds_toArray, List.set_cons_zero, List.set_cons_succ])
        refine anyH_take 5 40 (.int .i64 0) rfl rfl (by kernel_rfl) (by kernel_rfl) (by kernel_rfl) (fun _ _ _ h => h) (.inl ⟨by rfl, fun w'' hS => by go_simp⟩) hSl ?_
        (simp only [List.setIfInBounds_toArray, List.set_cons_zero, List.set_cons_succ])
        refine anyH_take 6 41 (.int .i64 0) rfl rfl (by kernel_rfl) (by kernel_rfl) (by kernel_rfl) (fun _ _ _ h => h) (.inl ⟨by rfl, fun w'' hS => by go_simp⟩) hSl ?_
        (simp only [List.setIfInBounds_toArray, List.set_cons_zero, List.set_cons_succ])
        obtain ⟨W3, ha3, b3, f3⟩ := alloc_page wl
        have hSt : Fr (fun _ => False) w2 W3 := hSl.trans f3 (fun _ _ q => q)
        have hge : w2.heap.size ≤ wl.heap.size := hSl.size
        refine anyH_value 7 3 _ W3 (by kernel_rfl) rfl rfl (by rfl) (by rw [ha3]; exact run_zero_op 26 rfl zeroPage) hSt ?_
        (simp only [List.setIfInBounds_toArray, List.set_cons_zero, List.set_cons_succ])
        clear ha3
        refine anyH_skip 8 _ (by kernel_rfl) rfl rfl (by rfl) (run_store_mid 26 _ _ rfl wl.heap.size 0 (cellsB L3).toArray rfl rfl (b3.there (by simp [cellsB_len, nought_len, hl3])) (by rw [infoPage]; simp [cellsB_len, hl3]) (all_oneCell_toArray (cellsB_one _))) (Fr.setCells (.inr hge) hSt) ?_
        have hSe := Fr.setCells (F := fun _ => False) (b := wl.heap.size) (vs := cellsB L3) (o := 0) (.inr hge) hSt
        refine anyH_take 9 4 (.int .i64 0) rfl rfl (by kernel_rfl) (by kernel_rfl) (by kernel_rfl) (fun _ _ _ h => h) (.inl ⟨by rfl, fun w'' hS => by go_simp⟩) hSe ?_
        (simp only [List.setIfInBounds_toArray, List.set_cons_zero, List.set_cons_succ])
        refine anyH_take 10 5 (.int .i64 0) rfl rfl (by kernel_rfl) (by kernel_rfl) (by kernel_rfl) (fun _ _ _ h => h) (.inl ⟨by rfl, fun w'' hS => by go_simp⟩) hSe ?_
        (simp only [List.setIfInBounds_toArray, List.set_cons_zero, List.set_cons_succ])
        refine wpAnyH_done (by kernel_rfl) ?_ _
        have hbo := b3.over (o := 0) (m := L3) (by have h1 := nought_len 512; have h2 := hl3; omega)
        rw [patch_all (by have h1 := nought_len 512; have h2 := hl3; omega)] at hbo
        go_wp2_with fail
        go_meet
        exact ⟨wl.heap.size, rfl, rfl, rfl, Lib.hid hbo, Lib.hid hSe⟩
      · obtain ⟨W3, ha3, b3, f3⟩ := alloc_page W1
        have g3 : Fr (fun _ => False) w2 W3 := g1.trans f3 (fun _ _ q => q)
        have hge : w2.heap.size ≤ W1.heap.size := g1.size
        refine wpOp_value 3 _ rfl rfl (by rfl) (by rw [ha3]; exact run_zero_op 26 rfl zeroPage) ⟨g3, ?_⟩
        (simp only [List.setIfInBounds_toArray, List.set_cons_zero, List.set_cons_succ])
        clear ha3
        have r3 := r1.keep f3 (fun _ _ q => q)
        refine anyH_enter 2 38 (by kernel_rfl) rfl rfl (by rfl) (by go_simp) ((HL.out _ g3 _ r3).mono ?_)
        rintro e wl ⟨rfl, fl⟩
        have hSt : Fr (fun _ => False) w2 wl := g3.trans fl (fun _ _ q => q)
        refine ⟨_, rfl, hSt, ?_⟩
        (simp only [List.setIfInBounds_toArray, List.set_cons_zero, List.set_cons_succ])
        have b4 := b3.keep fl (fun q => q)
        refine anyH_take 3 35 (.tuple #[av L3, (.int .i64 0), (.int .i64 0)]) rfl rfl (by kernel_rfl) (by kernel_rfl) (by kernel_rfl) (fun _ _ _ h => h) (.inl ⟨by rfl, fun w'' hS => by go_simp⟩) hSt ?_
        (simp only [List.setIfInBounds_toArray, List.set_cons_zero, List.set_cons_succ])
        refine anyH_take 4 39 (av L3) rfl rfl (by kernel_rfl) (by kernel_rfl) (by kernel_rfl) (fun _ _ _ h => h) (.inl ⟨by rfl, fun w'' hS => by go_simp⟩) hSt ?_
        (simp only [List.setIfInBounds_toArray, List.set_cons_zero, List.set_cons_succ])
        refine anyH_take 5 40 (.int .i64 0) rfl rfl (by kernel_rfl) (by kernel_rfl) (by kernel_rfl) (fun _ _ _ h => h) (.inl ⟨by rfl, fun w'' hS => by go_simp⟩) hSt ?_
        (simp only [List.setIfInBounds_toArray, List.set_cons_zero, List.set_cons_succ])
        refine anyH_take 6 41 (.int .i64 0) rfl rfl (by kernel_rfl) (by kernel_rfl) (by kernel_rfl) (fun _ _ _ h => h) (.inl ⟨by rfl, fun w'' hS => by go_simp⟩) hSt ?_
        (simp only [List.setIfInBounds_toArray, List.set_cons_zero, List.set_cons_succ])
        refine anyH_skip 8 _ (by kernel_rfl) rfl rfl (by rfl) (run_store_mid 26 _ _ rfl W1.heap.size 0 (cellsB L3).toArray rfl rfl (b4.there (by simp [cellsB_len, nought_len, hl3])) (by rw [infoPage]; simp [cellsB_len, hl3]) (all_oneCell_toArray (cellsB_one _))) (Fr.setCells (.inr hge) hSt) ?_
        have hSe := Fr.setCells (F := fun _ => False) (b := W1.heap.size) (vs := cellsB L3) (o := 0) (.inr hge) hSt
        refine anyH_take 9 4 (.int .i64 0) rfl rfl (by kernel_rfl) (by kernel_rfl) (by kernel_rfl) (fun _ _ _ h => h) (.inl ⟨by rfl, fun w'' hS => by go_simp⟩) hSe ?_
        (simp only [List.setIfInBounds_toArray, List.set_cons_zero, List.set_cons_succ])
        refine anyH_take 10 5 (.int .i64 0) rfl rfl (by kernel_rfl) (by kernel_rfl) (by kernel_rfl) (fun _ _ _ h => h) (.inl ⟨by rfl, fun w'' hS => by go_simp⟩) hSe ?_
        (simp only [List.setIfInBounds_toArray, List.set_cons_zero, List.set_cons_succ])
        refine wpAnyH_done (by kernel_rfl) ?_ _
        have hbo := b4.over (o := 0) (m := L3) (by have h1 := nought_len 512; have h2 := hl3; omega)
        rw [patch_all (by have h1 := nought_len 512; have h2 := hl3; omega)] at hbo
        go_wp2_with fail
        go_meet
        exact ⟨W1.heap.size, rfl, rfl, rfl, Lib.hid hbo, Lib.hid hSe⟩
    · obtain ⟨W3, ha3, b3, f3⟩ := alloc_page w2.drew
      have g3 : Fr (fun _ => False) w2 W3 := hS0.trans f3 (fun _ _ q => q)
      have hge : w2.heap.size ≤ w2.drew.heap.size := hS0.size
      refine wpOp_value 3 _ rfl rfl (by rfl) (by rw [ha3]; exact run_zero_op 26 rfl zeroPage) ⟨g3, ?_⟩
      (simp only [List.setIfInBounds_toArray, List.set_cons_zero, List.set_cons_succ])
      clear ha3
      obtain ⟨W1, hm1, f1, r1⟩ := make_page_bytes W3 400 400 rfl (by omega)
      have g1 : Fr (fun _ => False) w2 W1 := g3.trans f1 (fun _ _ q => q)
      refine anyH_value 1 37 _ W1 (by kernel_rfl) rfl rfl (by rfl) (run_make_op 34 _ rfl rfl hm1) g1 ?_
      (simp only [List.setIfInBounds_toArray, List.set_cons_zero, List.set_cons_succ])
      refine anyH_enter 2 38 (by kernel_rfl) rfl rfl (by rfl) (by go_simp) ((HL.out _ g1 _ r1).mono ?_)
      rintro e wl ⟨rfl, fl⟩
      have hSt : Fr (fun _ => False) w2 wl := g1.trans fl (fun _ _ q => q)
      refine ⟨_, rfl, hSt, ?_⟩
      (simp only [List.setIfInBounds_toArray, List.set_cons_zero, List.set_cons_succ])
      have b4 := (b3.keep f1 (fun q => q)).keep fl (fun q => q)
      refine anyH_take 3 35 (.tuple #[av L3, (.int .i64 0), (.int .i64 0)]) rfl rfl (by kernel_rfl) (by kernel_rfl) (by kernel_rfl) (fun _ _ _ h => h) (.inl ⟨by rfl, fun w'' hS => by go_simp⟩) hSt ?_
      (simp only [List.setIfInBounds_toArray, List.set_cons_zero, List.set_cons_succ])
      refine anyH_take 4 39 (av L3) rfl rfl (by kernel_rfl) (by kernel_rfl) (by kernel_rfl) (fun _ _ _ h => h) (.inl ⟨by rfl, fun w'' hS => by go_simp⟩) hSt ?_
      (simp only [List.setIfInBounds_toArray, List.set_cons_zero, List.set_cons_succ])
      refine anyH_take 5 40 (.int .i64 0) rfl rfl (by kernel_rfl) (by kernel_rfl) (by kernel_rfl) (fun _ _ _ h => h) (.inl ⟨by rfl, fun w'' hS => by go_simp⟩) hSt ?_
      (simp only [List.setIfInBounds_toArray, List.set_cons_zero, List.set_cons_succ])
      refine anyH_take 6 41 (.int .i64 0) rfl rfl (by kernel_rfl) (by kernel_rfl) (by kernel_rfl) (fun _ _ _ h => h) (.inl ⟨by rfl, fun w'' hS => by go_simp⟩) hSt ?_
      (simp only [List.setIfInBounds_toArray, List.set_cons_zero, List.set_cons_succ])
      refine anyH_skip 8 _ (by kernel_rfl) rfl rfl (by rfl) (run_store_mid 26 _ _ rfl w2.drew.heap.size 0 (cellsB L3).toArray rfl rfl (b4.there (by simp [cellsB_len, nought_len, hl3])) (by rw [infoPage]; simp [cellsB_len, hl3]) (all_oneCell_toArray (cellsB_one _))) (Fr.setCells (.inr hge) hSt) ?_
      have hSe := Fr.setCells (F := fun _ => False) (b := w2.drew.heap.size) (vs := cellsB L3) (o := 0) (.inr hge) hSt
      refine anyH_take 9 4 (.int .i64 0) rfl rfl (by kernel_rfl) (by kernel_rfl) (by kernel_rfl) (fun _ _ _ h => h) (.inl ⟨by rfl, fun w'' hS => by go_simp⟩) hSe ?_
      (simp only [List.setIfInBounds_toArray, List.set_cons_zero, List.set_cons_succ])
      refine anyH_take 10 5 (.int .i64 0) rfl rfl (by kernel_rfl) (by kernel_rfl) (by kernel_rfl) (fun _ _ _ h => h) (.inl ⟨by rfl, fun w'' hS => by go_simp⟩) hSe ?_
      (simp only [List.setIfInBounds_toArray, List.set_cons_zero, List.set_cons_succ])
      refine wpAnyH_done (by kernel_rfl) ?_ _
      have hbo := b4.over (o := 0) (m := L3) (by have h1 := nought_len 512; have h2 := hl3; omega)
      rw [patch_all (by have h1 := nought_len 512; have h2 := hl3; omega)] at hbo
      go_wp2_with fail
      go_meet
      exact ⟨w2.drew.heap.size, rfl, rfl, rfl, Lib.hid hbo, Lib.hid hSe⟩
  case rest =>
    obtain ⟨g3, rfl, rfl, rfl, HB3, HF3⟩ := hcut
    have HB1c := Lib.hid (HB1.out.keep HF3.out (fun q => q))
    have HFc := Lib.hid (HF2.out.trans HF3.out (fun _ _ q => q))
    have HL2 : Hid (∀ W, Fr (fun _ => False) wc W → ∀ A, Rd W A 92 (nought 92) → _) := Lib.hid fun W _ A hr => H3.out W A hr
    obtain ⟨g1, hg1⟩ : ∃ g, g = w1.heap.size := ⟨_, rfl⟩
    rw [← hg1] at HB1c HG1 ⊢
    clear HB1 HF2 HL H3 HF3 hg1
    go_upto_region 3 with (fail)
    go_cut [6, 7, 8] (fun s6 s7 s8 wx => ∃ g : Nat, s6 = .pointer (some ⟨g, 0, none⟩) ∧ s7 = .int .i64 1 ∧ s8 = .int .i64 0 ∧ Hid (Blk wx g 26 (cellsB L6).toArray) ∧ Hid (Fr (fun _ => False) wc wx))
    case first =>
      refine wp_region_held_drew (S := fun w' => Fr (fun _ => False) wc w') (by kernel_rfl) ((Fr.refl _ _).drew) (fun hS0 => ?_)
      refine anyH_take 0 43 (av L3) rfl rfl (by kernel_rfl) (by kernel_rfl) (by kernel_rfl) (fun _ _ _ h => h) (yieldsIf_load_mid (by rfl) _ _ rfl _ _ rfl _ _ (fun w' f => page_range (HB3.out.keep f (fun q => q)) hl3) hup rfl (by rw [infoPage, cellsB_len, hl3])) hS0 ?_
      (simp only [List.setIfInBounds_toArray, List.set_cons_zero, List.set_cons_succ])
      refine anyH_alt 1 7 (by kernel_rfl) ?_ ?_
      · obtain ⟨W1, hm1, f1, r1⟩ := make_page_bytes wc.drew 92 92 rfl (by omega)
        have g1 : Fr (fun _ => False) wc W1 := hS0.trans f1 (fun _ _ q => q)
        refine wpOp_value 44 _ rfl rfl (by rfl) (run_make_op 34 _ rfl rfl hm1) ⟨g1, ?_⟩
        (simp only [List.setIfInBounds_toArray, List.set_cons_zero, List.set_cons_succ])
        refine anyH_alt 2 7 (by kernel_rfl) ?_ ?_
        · refine wpOp_call 45 rfl rfl (by rfl) (by go_simp) (((HL2.out _ g1 _ r1)).mono ?_)
          rintro e wl ⟨rfl, fl⟩
          refine ⟨_, rfl, (g1.trans fl (fun _ _ q => q)), ?_⟩
          (simp only [List.setIfInBounds_toArray, List.set_cons_zero, List.set_cons_succ])
          have hSl : Fr (fun _ => False) wc wl := g1.trans fl (fun _ _ q => q)
          refine anyH_take 3 42 (.tuple #[av L6, (.int .i64 1), (.int .i64 0)]) rfl rfl (by kernel_rfl) (by kernel_rfl) (by kernel_rfl) (fun _ _ _ h => h) (.inl ⟨by rfl, fun w'' hS => by go_simp⟩) hSl ?_
          (simp only [List.setIfInBounds_toArray, List.set_cons_zero, List.set_cons_succ])
          refine anyH_take 4 46 (av L6) rfl rfl (by kernel_rfl) (by kernel_rfl) (by kernel_rfl) (fun _ _ _ h => h) (.inl ⟨by rfl, fun w'' hS => by go_simp⟩) hSl ?_
          (simp only [List.setIfInBounds_toArray, List.set_cons_zero, List.set_cons_succ])
          refine anyH_take 5 47 (.int .i64 1) rfl rfl (by kernel_rfl) (by kernel_rfl) (by kernel_rfl) (fun _ _ _ h => h) (.inl ⟨by rfl, fun w'' hS => by go_simp⟩) hSl ?_
          (simp only [List.setIfInBounds_toArray, List.set_cons_zero, List.set_cons_succ])
          refine anyH_take 6 48 (.int .i64 0) rfl rfl (by kernel_rfl) (by kernel_rfl) (by kernel_rfl) (fun _ _ _ h => h) (.inl ⟨by rfl, fun w'' hS => by go_simp⟩) hSl ?_
          (simp only [List.setIfInBounds_toArray, List.set_cons_zero, List.set_cons_succ])
          obtain ⟨W3, ha3, b3, f3⟩ := alloc_page wl
          have hSt : Fr (fun _ => False) wc W3 := hSl.trans f3 (fun _ _ q => q)
          have hge : wc.heap.size ≤ wl.heap.size := hSl.size
          refine anyH_value 7 6 _ W3 (by kernel_rfl) rfl rfl (by rfl) (by rw [ha3]; exact run_zero_op 26 rfl zeroPage) hSt ?_
          (simp only [List.setIfInBounds_toArray, List.set_cons_zero, List.set_cons_succ])
          clear ha3
          refine anyH_skip 8 _ (by kernel_rfl) rfl rfl (by rfl) (run_store_mid 26 _ _ rfl wl.heap.size 0 (cellsB L6).toArray rfl rfl (b3.there (by simp [cellsB_len, nought_len, hl6])) (by rw [infoPage]; simp [cellsB_len, hl6]) (all_oneCell_toArray (cellsB_one _))) (Fr.setCells (.inr hge) hSt) ?_
          have hSe := Fr.setCells (F := fun _ => False) (b := wl.heap.size) (vs := cellsB L6) (o := 0) (.inr hge) hSt
          refine anyH_take 9 7 (.int .i64 1) rfl rfl (by kernel_rfl) (by kernel_rfl) (by kernel_rfl) (fun _ _ _ h => h) (.inl ⟨by rfl, fun w'' hS => by go_simp⟩) hSe ?_
          (simp only [List.setIfInBounds_toArray, List.set_cons_zero, List.set_cons_succ])
          refine anyH_take 10 8 (.int .i64 0) rfl rfl (by kernel_rfl) (by kernel_rfl) (by kernel_rfl) (fun _ _ _ h => h) (.inl ⟨by rfl, fun w'' hS => by go_simp⟩) hSe ?_
          (simp only [List.setIfInBounds_toArray, List.set_cons_zero, List.set_cons_succ])
          refine wpAnyH_done (by kernel_rfl) ?_ _
          have hbo := b3.over (o := 0) (m := L6) (by have h1 := nought_len 512; have h2 := hl6; omega)
          rw [patch_all (by have h1 := nought_len 512; have h2 := hl6; omega)] at hbo
          go_wp2_with fail
          go_meet
          exact ⟨wl.heap.size, rfl, rfl, rfl, Lib.hid hbo, Lib.hid hSe⟩
        · obtain ⟨W3, ha3, b3, f3⟩ := alloc_page W1
          have g3 : Fr (fun _ => False) wc W3 := g1.trans f3 (fun _ _ q => q)
          have hge : wc.heap.size ≤ W1.heap.size := g1.size
          refine wpOp_value 6 _ rfl rfl (by rfl) (by rw [ha3]; exact run_zero_op 26 rfl zeroPage) ⟨g3, ?_⟩
          (simp only [List.setIfInBounds_toArray, List.set_cons_zero, List.set_cons_succ])
          clear ha3
          have r3 := r1.keep f3 (fun _ _ q => q)
          refine anyH_enter 2 45 (by kernel_rfl) rfl rfl (by rfl) (by go_simp) ((HL2.out _ g3 _ r3).mono ?_)
          rintro e wl ⟨rfl, fl⟩
          have hSt : Fr (fun _ => False) wc wl := g3.trans fl (fun _ _ q => q)
          refine ⟨_, rfl, hSt, ?_⟩
          (simp only [List.setIfInBounds_toArray, List.set_cons_zero, List.set_cons_succ])
          have b4 := b3.keep fl (fun q => q)
          refine anyH_take 3 42 (.tuple #[av L6, (.int .i64 1), (.int .i64 0)]) rfl rfl (by kernel_rfl) (by kernel_rfl) (by kernel_rfl) (fun _ _ _ h => h) (.inl ⟨by rfl, fun w'' hS => by go_simp⟩) hSt ?_
          (simp only [List.setIfInBounds_toArray, List.set_cons_zero, List.set_cons_succ])
          refine anyH_take 4 46 (av L6) rfl rfl (by kernel_rfl) (by kernel_rfl) (by kernel_rfl) (fun _ _ _ h => h) (.inl ⟨by rfl, fun w'' hS => by go_simp⟩) hSt ?_
          (simp only [List.setIfInBounds_toArray, List.set_cons_zero, List.set_cons_succ])
          refine anyH_take 5 47 (.int .i64 1) rfl rfl (by kernel_rfl) (by kernel_rfl) (by kernel_rfl) (fun _ _ _ h => h) (.inl ⟨by rfl, fun w'' hS => by go_simp⟩) hSt ?_
          (simp only [List.setIfInBounds_toArray, List.set_cons_zero, List.set_cons_succ])
          refine anyH_take 6 48 (.int .i64 0) rfl rfl (by kernel_rfl) (by kernel_rfl) (by kernel_rfl) (fun _ _ _ h => h) (.inl ⟨by rfl, fun w'' hS => by go_simp⟩) hSt ?_
          (simp only [List.setIfInBounds_toArray, List.set_cons_zero, List.set_cons_succ])
          refine anyH_skip 8 _ (by kernel_rfl) rfl rfl (by rfl) (run_store_mid 26 _ _ rfl W1.heap.size 0 (cellsB L6).toArray rfl rfl (b4.there (by simp [cellsB_len, nought_len, hl6])) (by rw [infoPage]; simp [cellsB_len, hl6]) (all_oneCell_toArray (cellsB_one _))) (Fr.setCells (.inr hge) hSt) ?_
          have hSe := Fr.setCells (F := fun _ => False) (b := W1.heap.size) (vs := cellsB L6) (o := 0) (.inr hge) hSt
          refine anyH_take 9 7 (.int .i64 1) rfl rfl (by kernel_rfl) (by kernel_rfl) (by kernel_rfl) (fun _ _ _ h => h) (.inl ⟨by rfl, fun w'' hS => by go_simp⟩) hSe ?_
          (simp only [List.setIfInBounds_toArray, List.set_cons_zero, List.set_cons_succ])
          refine anyH_take 10 8 (.int .i64 0) rfl rfl (by kernel_rfl) (by kernel_rfl) (by kernel_rfl) (fun _ _ _ h => h) (.inl ⟨by rfl, fun w'' hS => by go_simp⟩) hSe ?_
          (simp only [List.setIfInBounds_toArray, List.set_cons_zero, List.set_cons_succ])
          refine wpAnyH_done (by kernel_rfl) ?_ _
          have hbo := b4.over (o := 0) (m := L6) (by have h1 := nought_len 512; have h2 := hl6; omega)
          rw [patch_all (by have h1 := nought_len 512; have h2 := hl6; omega)] at hbo
          go_wp2_with fail
          go_meet
          exact ⟨W1.heap.size, rfl, rfl, rfl, Lib.hid hbo, Lib.hid hSe⟩
      · obtain ⟨W3, ha3, b3, f3⟩ := alloc_page wc.drew
        have g3 : Fr (fun _ => False) wc W3 := hS0.trans f3 (fun _ _ q => q)
        have hge : wc.heap.size ≤ wc.drew.heap.size := hS0.size
        refine wpOp_value 6 _ rfl rfl (by rfl) (by rw [ha3]; exact run_zero_op 26 rfl zeroPage) ⟨g3, ?_⟩
        (simp only [List.setIfInBounds_toArray, List.set_cons_zero, List.set_cons_succ])
        clear ha3
        obtain ⟨W1, hm1, f1, r1⟩ := make_page_bytes W3 92 92 rfl (by omega)
        have g1 : Fr (fun _ => False) wc W1 := g3.trans f1 (fun _ _ q => q)
        refine anyH_value 1 44 _ W1 (by kernel_rfl) rfl rfl (by rfl) (run_make_op 34 _ rfl rfl hm1) g1 ?_
        (simp only [List.setIfInBounds_toArray, List.set_cons_zero, List.set_cons_succ])
        refine anyH_enter 2 45 (by kernel_rfl) rfl rfl (by rfl) (by go_simp) ((HL2.out _ g1 _ r1).mono ?_)
        rintro e wl ⟨rfl, fl⟩
        have hSt : Fr (fun _ => False) wc wl := g1.trans fl (fun _ _ q => q)
        refine ⟨_, rfl, hSt, ?_⟩
        (simp only [List.setIfInBounds_toArray, List.set_cons_zero, List.set_cons_succ])
        have b4 := (b3.keep f1 (fun q => q)).keep fl (fun q => q)
        refine anyH_take 3 42 (.tuple #[av L6, (.int .i64 1), (.int .i64 0)]) rfl rfl (by kernel_rfl) (by kernel_rfl) (by kernel_rfl) (fun _ _ _ h => h) (.inl ⟨by rfl, fun w'' hS => by go_simp⟩) hSt ?_
        (simp only [List.setIfInBounds_toArray, List.set_cons_zero, List.set_cons_succ])
        refine anyH_take 4 46 (av L6) rfl rfl (by kernel_rfl) (by kernel_rfl) (by kernel_rfl) (fun _ _ _ h => h) (.inl ⟨by rfl, fun w'' hS => by go_simp⟩) hSt ?_
        (simp only [List.setIfInBounds_toArray, List.set_cons_zero, List.set_cons_succ])
        refine anyH_take 5 47 (.int .i64 1) rfl rfl (by kernel_rfl) (by kernel_rfl) (by kernel_rfl) (fun _ _ _ h => h) (.inl ⟨by rfl, fun w'' hS => by go_simp⟩) hSt ?_
        (simp only [List.setIfInBounds_toArray, List.set_cons_zero, List.set_cons_succ])
        refine anyH_take 6 48 (.int .i64 0) rfl rfl (by kernel_rfl) (by kernel_rfl) (by kernel_rfl) (fun _ _ _ h => h) (.inl ⟨by rfl, fun w'' hS => by go_simp⟩) hSt ?_
        (simp only [List.setIfInBounds_toArray, List.set_cons_zero, List.set_cons_succ])
        refine anyH_skip 8 _ (by kernel_rfl) rfl rfl (by rfl) (run_store_mid 26 _ _ rfl wc.drew.heap.size 0 (cellsB L6).toArray rfl rfl (b4.there (by simp [cellsB_len, nought_len, hl6])) (by rw [infoPage]; simp [cellsB_len, hl6]) (all_oneCell_toArray (cellsB_one _))) (Fr.setCells (.inr hge) hSt) ?_
        have hSe := Fr.setCells (F := fun _ => False) (b := wc.drew.heap.size) (vs := cellsB L6) (o := 0) (.inr hge) hSt
        refine anyH_take 9 7 (.int .i64 1) rfl rfl (by kernel_rfl) (by kernel_rfl) (by kernel_rfl) (fun _ _ _ h => h) (.inl ⟨by rfl, fun w'' hS => by go_simp⟩) hSe ?_
        (simp only [List.setIfInBounds_toArray, List.set_cons_zero, List.set_cons_succ])
        refine anyH_take 10 8 (.int .i64 0) rfl rfl (by kernel_rfl) (by kernel_rfl) (by kernel_rfl) (fun _ _ _ h => h) (.inl ⟨by rfl, fun w'' hS => by go_simp⟩) hSe ?_
        (simp only [List.setIfInBounds_toArray, List.set_cons_zero, List.set_cons_succ])
        refine wpAnyH_done (by kernel_rfl) ?_ _
        have hbo := b4.over (o := 0) (m := L6) (by have h1 := nought_len 512; have h2 := hl6; omega)
        rw [patch_all (by have h1 := nought_len 512; have h2 := hl6; omega)] at hbo
        go_wp2_with fail
        go_meet
        exact ⟨wc.drew.heap.size, rfl, rfl, rfl, Lib.hid hbo, Lib.hid hSe⟩
    case rest =>
      rename_i wd
      obtain ⟨g6, rfl, rfl, rfl, HB6, HF6⟩ := hcut
      have HP := Lib.hid (And.intro (HB1c.out.keep HF6.out (fun q => q)) (And.intro (HB3.out.keep HF6.out (fun q => q)) HB6.out))
      have HFd := Lib.hid (HFc.out.trans HF6.out (fun _ _ q => q))
      clear HB1c HB3 HB6 HFc HL2 HF6
      have q0 := Lib.hid (page_range HP.out.2.2 hl6)
      go_wp2_with (refine wpList_load_want (by rfl) 26 _ rfl g6 0 rfl (cellsB L6) _ q0.out hup rfl hs6 ?_)
      refine (H4.out _).mono ?_
      rintro e we1 ⟨rfl, fe⟩
      clear q0 H4
      go_upto_region 5 with (first | (refine wpList_zero rfl 26 rfl zeroPage ?_) | (refine wpList_store_mid rfl 26 _ _ rfl we1.heap.size 0 (cellsB LZ).toArray rfl rfl (there_new we1 hlz) (by rw [infoPage]; simp [cellsB_len, hlz]) (all_oneCell_toArray (cellsB_one _)) ?_))
      obtain ⟨wf1, hwx⟩ : ∃ X, X = (we1.alloc (.cells (cellsB (nought 512)).toArray 26)).setCells we1.heap.size 0 (cellsB LZ) := ⟨_, rfl⟩
      have hbx := box_page hlz wf1 hwx
      have fe2 := fe.trans hbx.2 (fun _ _ q => q)
      have HP1 := Lib.hid (And.intro (HP.out.1.keep fe2 (fun q => q)) (And.intro (HP.out.2.1.keep fe2 (fun q => q)) (HP.out.2.2.keep fe2 (fun q => q))))
      have HF1 := Lib.hid (HFd.out.trans fe2 (fun _ _ q => q))
      rw [← hwx]
      clear hwx hbx fe fe2 HP HFd
      have HL : Hid (∀ W, Fr (fun _ => False) wf1 W → ∀ A, Rd W A 93 (nought 93) → _) := Lib.hid fun W _ A hr => H5.out W A hr
      have HB3 := Lib.hid HP1.out.2.1
      go_cut [12, 13, 14] (fun s12 s13 s14 wx => ∃ g : Nat, s12 = .pointer (some ⟨g, 0, none⟩) ∧ s13 = .int .i64 0 ∧ s14 = .int .i64 8 ∧ Hid (Blk wx g 26 (cellsB LZ).toArray) ∧ Hid (Fr (fun _ => False) wf1 wx))
      case first =>
        refine wp_region_held_drew (S := fun w' => Fr (fun _ => False) wf1 w') (by kernel_rfl) ((Fr.refl _ _).drew) (fun hS0 => ?_)
        refine anyH_take 0 56 (av L3) rfl rfl (by kernel_rfl) (by kernel_rfl) (by kernel_rfl) (fun _ _ _ h => h) (yieldsIf_load_mid (by rfl) _ _ rfl _ _ rfl _ _ (fun w' f => page_range (HB3.out.keep f (fun q => q)) hl3) hup rfl (by rw [infoPage, cellsB_len, hl3])) hS0 ?_
        (simp only [List.setIfInBounds_toArray, List.set_cons_zero, List.set_cons_succ])
        refine anyH_alt 1 7 (by kernel_rfl) ?_ ?_
        · obtain ⟨W1, hm1, f1, r1⟩ := make_page_bytes wf1.drew 93 93 rfl (by omega)
          have g1 : Fr (fun _ => False) wf1 W1 := hS0.trans f1 (fun _ _ q => q)
          refine wpOp_value 57 _ rfl rfl (by rfl) (run_make_op 34 _ rfl rfl hm1) ⟨g1, ?_⟩
          (simp only [List.setIfInBounds_toArray, List.set_cons_zero, List.set_cons_succ])
          refine anyH_alt 2 7 (by kernel_rfl) ?_ ?_
          · refine wpOp_call 58 rfl rfl (by rfl) (by go_simp) (((HL.out _ g1 _ r1)).mono ?_)
            rintro e wl ⟨rfl, fl⟩
            refine ⟨_, rfl, (g1.trans fl (fun _ _ q => q)), ?_⟩
            (simp only [List.setIfInBounds_toArray, List.set_cons_zero, List.set_cons_succ])
            have hSl : Fr (fun _ => False) wf1 wl := g1.trans fl (fun _ _ q => q)
            refine anyH_take 3 55 (.tuple #[av LZ, (.int .i64 0), (.int .i64 8)]) rfl rfl (by kernel_rfl) (by kernel_rfl) (by kernel_rfl) (fun _ _ _ h => h) (.inl ⟨by rfl, fun w'' hS => by go_simp⟩) hSl ?_
            (simp only [List.setIfInBounds_toArray, List.set_cons_zero, List.set_cons_succ])
            refine anyH_take 4 59 (av LZ) rfl rfl (by kernel_rfl) (by kernel_rfl) (by kernel_rfl) (fun _ _ _ h => h) (.inl ⟨by rfl, fun w'' hS => by go_simp⟩) hSl ?_
            (simp only [List.setIfInBounds_toArray, List.set_cons_zero, List.set_cons_succ])
            refine anyH_take 5 60 (.int .i64 0) rfl rfl (by kernel_rfl) (by kernel_rfl) (by kernel_rfl) (fun _ _ _ h => h) (.inl ⟨by rfl, fun w'' hS => by go_simp⟩) hSl ?_
            (simp only [List.setIfInBounds_toArray, List.set_cons_zero, List.set_cons_succ])
            refine anyH_take 6 61 (.int .i64 8) rfl rfl (by kernel_rfl) (by kernel_rfl) (by kernel_rfl) (fun _ _ _ h => h) (.inl ⟨by rfl, fun w'' hS => by go_simp⟩) hSl ?_
            (simp only [List.setIfInBounds_toArray, List.set_cons_zero, List.set_cons_succ])
            obtain ⟨W3, ha3, b3, f3⟩ := alloc_page wl
            have hSt : Fr (fun _ => False) wf1 W3 := hSl.trans f3 (fun _ _ q => q)
            have hge : wf1.heap.size ≤ wl.heap.size := hSl.size
            refine anyH_value 7 12 _ W3 (by kernel_rfl) rfl rfl (by rfl) (by rw [ha3]; exact run_zero_op 26 rfl zeroPage) hSt ?_
            (simp only [List.setIfInBounds_toArray, List.set_cons_zero, List.set_cons_succ])
            clear ha3
            refine anyH_skip 8 _ (by kernel_rfl) rfl rfl (by rfl) (run_store_mid 26 _ _ rfl wl.heap.size 0 (cellsB LZ).toArray rfl rfl (b3.there (by simp [cellsB_len, nought_len, hlz])) (by rw [infoPage]; simp [cellsB_len, hlz]) (all_oneCell_toArray (cellsB_one _))) (Fr.setCells (.inr hge) hSt) ?_
            have hSe := Fr.setCells (F := fun _ => False) (b := wl.heap.size) (vs := cellsB LZ) (o := 0) (.inr hge) hSt
            refine anyH_take 9 13 (.int .i64 0) rfl rfl (by kernel_rfl) (by kernel_rfl) (by kernel_rfl) (fun _ _ _ h => h) (.inl ⟨by rfl, fun w'' hS => by go_simp⟩) hSe ?_
            (simp only [List.setIfInBounds_toArray, List.set_cons_zero, List.set_cons_succ])
            refine anyH_take 10 14 (.int .i64 8) rfl rfl (by kernel_rfl) (by kernel_rfl) (by kernel_rfl) (fun _ _ _ h => h) (.inl ⟨by rfl, fun w'' hS => by go_simp⟩) hSe ?_
            (simp only [List.setIfInBounds_toArray, List.set_cons_zero, List.set_cons_succ])
            refine wpAnyH_done (by kernel_rfl) ?_ _
            have hbo := b3.over (o := 0) (m := LZ) (by have h1 := nought_len 512; have h2 := hlz; omega)
            rw [patch_all (by have h1 := nought_len 512; have h2 := hlz; omega)] at hbo
            go_wp2_with fail
            go_meet
            exact ⟨wl.heap.size, rfl, rfl, rfl, Lib.hid hbo, Lib.hid hSe⟩
          · obtain ⟨W3, ha3, b3, f3⟩ := alloc_page W1
            have g3 : Fr (fun _ => False) wf1 W3 := g1.trans f3 (fun _ _ q => q)
            have hge : wf1.heap.size ≤ W1.heap.size := g1.size
            refine wpOp_value 12 _ rfl rfl (by rfl) (by rw [ha3]; exact run_zero_op 26 rfl zeroPage) ⟨g3, ?_⟩
            (simp only [List.setIfInBounds_toArray, List.set_cons_zero, List.set_cons_succ])
            clear ha3
            have r3 := r1.keep f3 (fun _ _ q => q)
            refine anyH_enter 2 58 (by kernel_rfl) rfl rfl (by rfl) (by go_simp) ((HL.out _ g3 _ r3).mono ?_)
            rintro e wl ⟨rfl, fl⟩
            have hSt : Fr (fun _ => False) wf1 wl := g3.trans fl (fun _ _ q => q)
            refine ⟨_, rfl, hSt, ?_⟩
            (simp only [List.setIfInBounds_toArray, List.set_cons_zero, List.set_cons_succ])
            have b4 := b3.keep fl (fun q => q)
            refine anyH_take 3 55 (.tuple #[av LZ, (.int .i64 0), (.int .i64 8)]) rfl rfl (by kernel_rfl) (by kernel_rfl) (by kernel_rfl) (fun _ _ _ h => h) (.inl ⟨by rfl, fun w'' hS => by go_simp⟩) hSt ?_
            (simp only [List.setIfInBounds_toArray, List.set_cons_zero, List.set_cons_succ])
            refine anyH_take 4 59 (av LZ) rfl rfl (by kernel_rfl) (by kernel_rfl) (by kernel_rfl) (fun _ _ _ h => h) (.inl ⟨by rfl, fun w'' hS => by go_simp⟩) hSt ?_
            (simp only [List.setIfInBounds_toArray, List.set_cons_zero, List.set_cons_succ])
            refine anyH_take 5 60 (.int .i64 0) rfl rfl (by kernel_rfl) (by kernel_rfl) (by kernel_rfl) (fun _ _ _ h => h) (.inl ⟨by rfl, fun w'' hS => by go_simp⟩) hSt ?_
            (simp only [List.setIfInBounds_toArray, List.set_cons_zero, List.set_cons_succ])
            refine anyH_take 6 61 (.int .i64 8) rfl rfl (by kernel_rfl) (by kernel_rfl) (by kernel_rfl) (fun _ _ _ h => h) (.inl ⟨by rfl, fun w'' hS => by go_simp⟩) hSt ?_
            (simp only [List.setIfInBounds_toArray, List.set_cons_zero, List.set_cons_succ])
            refine anyH_skip 8 _ (by kernel_rfl) rfl rfl (by rfl) (run_store_mid 26 _ _ rfl W1.heap.size 0 (cellsB LZ).toArray rfl rfl (b4.there (by simp [cellsB_len, nought_len, hlz])) (by rw [infoPage]; simp [cellsB_len, hlz]) (all_oneCell_toArray (cellsB_one _))) (Fr.setCells (.inr hge) hSt) ?_
            have hSe := Fr.setCells (F := fun _ => False) (b := W1.heap.size) (vs := cellsB LZ) (o := 0) (.inr hge) hSt
            refine anyH_take 9 13 (.int .i64 0) rfl rfl (by kernel_rfl) (by kernel_rfl) (by kernel_rfl) (fun _ _ _ h => h) (.inl ⟨by rfl, fun w'' hS => by go_simp⟩) hSe ?_
            (simp only [List.setIfInBounds_toArray, List.set_cons_zero, List.set_cons_succ])
            refine anyH_take 10 14 (.int .i64 8) rfl rfl (by kernel_rfl) (by kernel_rfl) (by kernel_rfl) (fun _ _ _ h => h) (.inl ⟨by rfl, fun w'' hS => by go_simp⟩) hSe ?_
            (simp only [List.setIfInBounds_toArray, List.set_cons_zero, List.set_cons_succ])
            refine wpAnyH_done (by kernel_rfl) ?_ _
            have hbo := b4.over (o := 0) (m := LZ) (by have h1 := nought_len 512; have h2 := hlz; omega)
            rw [patch_all (by have h1 := nought_len 512; have h2 := hlz; omega)] at hbo
            go_wp2_with fail
            go_meet
            exact ⟨W1.heap.size, rfl, rfl, rfl, Lib.hid hbo, Lib.hid hSe⟩
        · obtain ⟨W3, ha3, b3, f3⟩ := alloc_page wf1.drew
          have g3 : Fr (fun _ => False) wf1 W3 := hS0.trans f3 (fun _ _ q => q)
          have hge : wf1.heap.size ≤ wf1.drew.heap.size := hS0.size
          refine wpOp_value 12 _ rfl rfl (by rfl) (by rw [ha3]; exact run_zero_op 26 rfl zeroPage) ⟨g3, ?_⟩
          (simp only [List.setIfInBounds_toArray, List.set_cons_zero, List.set_cons_succ])
          clear ha3
          obtain ⟨W1, hm1, f1, r1⟩ := make_page_bytes W3 93 93 rfl (by omega)
          have g1 : Fr (fun _ => False) wf1 W1 := g3.trans f1 (fun _ _ q => q)
          refine anyH_value 1 57 _ W1 (by kernel_rfl) rfl rfl (by rfl) (run_make_op 34 _ rfl rfl hm1) g1 ?_
          (simp only [List.setIfInBounds_toArray, List.set_cons_zero, List.set_cons_succ])
          refine anyH_enter 2 58 (by kernel_rfl) rfl rfl (by rfl) (by go_simp) ((HL.out _ g1 _ r1).mono ?_)
          rintro e wl ⟨rfl, fl⟩
          have hSt : Fr (fun _ => False) wf1 wl := g1.trans fl (fun _ _ q => q)
          refine ⟨_, rfl, hSt, ?_⟩
          (simp only [List.setIfInBounds_toArray, List.set_cons_zero, List.set_cons_succ])
          have b4 := (b3.keep f1 (fun q => q)).keep fl (fun q => q)
          refine anyH_take 3 55 (.tuple #[av LZ, (.int .i64 0), (.int .i64 8)]) rfl rfl (by kernel_rfl) (by kernel_rfl) (by kernel_rfl) (fun _ _ _ h => h) (.inl ⟨by rfl, fun w'' hS => by go_simp⟩) hSt ?_
          (simp only [List.setIfInBounds_toArray, List.set_cons_zero, List.set_cons_succ])
          refine anyH_take 4 59 (av LZ) rfl rfl (by kernel_rfl) (by kernel_rfl) (by kernel_rfl) (fun _ _ _ h => h) (.inl ⟨by rfl, fun w'' hS => by go_simp⟩) hSt ?_
          (simp only [List.setIfInBounds_toArray, List.set_cons_zero, List.set_cons_succ])
          refine anyH_take 5 60 (.int .i64 0) rfl rfl (by kernel_rfl) (by kernel_rfl) (by kernel_rfl) (fun _ _ _ h => h) (.inl ⟨by rfl, fun w'' hS => by go_simp⟩) hSt ?_
          (simp only [List.setIfInBounds_toArray, List.set_cons_zero, List.set_cons_succ])
          refine anyH_take 6 61 (.int .i64 8) rfl rfl (by kernel_rfl) (by kernel_rfl) (by kernel_rfl) (fun _ _ _ h => h) (.inl ⟨by rfl, fun w'' hS => by go_simp⟩) hSt ?_
          (simp only [List.setIfInBounds_toArray, List.set_cons_zero, List.set_cons_succ])
          refine anyH_skip 8 _ (by kernel_rfl) rfl rfl (by rfl) (run_store_mid 26 _ _ rfl wf1.drew.heap.size 0 (cellsB LZ).toArray rfl rfl (b4.there (by simp [cellsB_len, nought_len, hlz])) (by rw [infoPage]; simp [cellsB_len, hlz]) (all_oneCell_toArray (cellsB_one _))) (Fr.setCells (.inr hge) hSt) ?_
          have hSe := Fr.setCells (F := fun _ => False) (b := wf1.drew.heap.size) (vs := cellsB LZ) (o := 0) (.inr hge) hSt
          refine anyH_take 9 13 (.int .i64 0) rfl rfl (by kernel_rfl) (by kernel_rfl) (by kernel_rfl) (fun _ _ _ h => h) (.inl ⟨by rfl, fun w'' hS => by go_simp⟩) hSe ?_
          (simp only [List.setIfInBounds_toArray, List.set_cons_zero, List.set_cons_succ])
          refine anyH_take 10 14 (.int .i64 8) rfl rfl (by kernel_rfl) (by kernel_rfl) (by kernel_rfl) (fun _ _ _ h => h) (.inl ⟨by rfl, fun w'' hS => by go_simp⟩) hSe ?_
          (simp only [List.setIfInBounds_toArray, List.set_cons_zero, List.set_cons_succ])
          refine wpAnyH_done (by kernel_rfl) ?_ _
          have hbo := b4.over (o := 0) (m := LZ) (by have h1 := nought_len 512; have h2 := hlz; omega)
          rw [patch_all (by have h1 := nought_len 512; have h2 := hlz; omega)] at hbo
          go_wp2_with fail
          go_meet
          exact ⟨wf1.drew.heap.size, rfl, rfl, rfl, Lib.hid hbo, Lib.hid hSe⟩
      case rest =>
        rename_i wg
        obtain ⟨g12, rfl, rfl, rfl, -, HF12⟩ := hcut
        have HPg := Lib.hid (And.intro (HP1.out.1.keep HF12.out (fun q => q)) (And.intro (HP1.out.2.1.keep HF12.out (fun q => q)) (HP1.out.2.2.keep HF12.out (fun q => q))))
        have HFg := Lib.hid (HF1.out.trans HF12.out (fun _ _ q => q))
        clear HP1 HF1 HL H5 HB3 HF12
        go_upto_region 6 with (fail)
        have q0 := Lib.hid (page_range HPg.out.1 hl1)
        go_wp2_with (refine wpList_load_want (by rfl) 26 _ rfl g1 0 rfl (cellsB L1) _ q0.out hup rfl hs1 ?_)
        refine (H6.out _).mono ?_
        rintro e we2 ⟨rfl, fe⟩
        clear q0 H6
        go_upto_region 7 with (first | (refine wpList_zero rfl 26 rfl zeroPage ?_) | (refine wpList_store_mid rfl 26 _ _ rfl we2.heap.size 0 (cellsB L15).toArray rfl rfl (there_new we2 hl15) (by rw [infoPage]; simp [cellsB_len, hl15]) (all_oneCell_toArray (cellsB_one _)) ?_))
        obtain ⟨wf2, hwx⟩ : ∃ X, X = (we2.alloc (.cells (cellsB (nought 512)).toArray 26)).setCells we2.heap.size 0 (cellsB L15) := ⟨_, rfl⟩
        have hbx := box_page hl15 wf2 hwx
        have fe2 := fe.trans hbx.2 (fun _ _ q => q)
        have HP2 := Lib.hid (And.intro (HPg.out.1.keep fe2 (fun q => q)) (And.intro (HPg.out.2.1.keep fe2 (fun q => q)) (HPg.out.2.2.keep fe2 (fun q => q))))
        have HF2 := Lib.hid (HFg.out.trans fe2 (fun _ _ q => q))
        rw [← hwx]
        clear hwx hbx fe fe2 HPg HFg
        have q0 := Lib.hid (page_range HP2.out.1 hl1)
        go_wp2_with (refine wpList_load_want (by rfl) 26 _ rfl g1 0 rfl (cellsB L1) _ q0.out hup rfl hs1 ?_)
        refine (H7.out _).mono ?_
        rintro e we3 ⟨rfl, fe⟩
        clear q0 H7
        go_upto_region 8 with (first | (refine wpList_zero rfl 26 rfl zeroPage ?_) | (refine wpList_store_mid rfl 26 _ _ rfl we3.heap.size 0 (cellsB LZ).toArray rfl rfl (there_new we3 hlz) (by rw [infoPage]; simp [cellsB_len, hlz]) (all_oneCell_toArray (cellsB_one _)) ?_))
        obtain ⟨wf3, hwx⟩ : ∃ X, X = (we3.alloc (.cells (cellsB (nought 512)).toArray 26)).setCells we3.heap.size 0 (cellsB LZ) := ⟨_, rfl⟩
        have hbx := box_page hlz wf3 hwx
        have fe2 := fe.trans hbx.2 (fun _ _ q => q)
        have HP3 := Lib.hid (And.intro (HP2.out.1.keep fe2 (fun q => q)) (And.intro (HP2.out.2.1.keep fe2 (fun q => q)) (HP2.out.2.2.keep fe2 (fun q => q))))
        have HF3 := Lib.hid (HF2.out.trans fe2 (fun _ _ q => q))
        rw [← hwx]
        clear hwx hbx fe fe2 HP2 HF2
        have q0 := Lib.hid (page_range HP3.out.2.2 hl6)
        go_wp2_with (refine wpList_load_want (by rfl) 26 _ rfl g6 0 rfl (cellsB L6) _ q0.out hup rfl hs6 ?_)
        refine (H8.out _).mono ?_
        rintro e wh ⟨rfl, fh⟩
        have HPh := Lib.hid (And.intro (HP3.out.1.keep fh (fun q => q)) (And.intro (HP3.out.2.1.keep fh (fun q => q)) (HP3.out.2.2.keep fh (fun q => q))))
        have HFh := Lib.hid (HF3.out.trans fh (fun _ _ q => q))
        clear q0 fh H8 HP3 HF3
        have q0 := Lib.hid (page_range HPh.out.2.1 hl3)
        go_wp2_with (refine wpList_load_want (by rfl) 26 _ rfl g3 0 rfl (cellsB L3) _ q0.out hup rfl hs3 ?_)
        refine (H9.out _).mono ?_
        rintro e wi ⟨rfl, fi⟩
        have HBi := Lib.hid (HPh.out.1.keep fi (fun q => q))
        have HFi := Lib.hid (HFh.out.trans fi (fun _ _ q => q))
        clear q0 fi H9 HPh HFh
        go_wp2_with fail
        go_loopw [19] (fun i wr => ∃ k : Nat, i = .int .i64 k ∧ k ≤ 125 ∧ Hid (Blk wr g1 26 (cellsB (QL k)).toArray) ∧ Hid (Fr (fun _ => False) w wr)) (fun i _ => 125 - (intOf i).toNat)
        case atStart => exact ⟨0, rfl, Nat.zero_le _, Lib.hid (by have := HBi.out; rwa [HLQ.out.2] at this), HFi⟩
        case round =>
          obtain ⟨k, rfl, hk, HB, HF⟩ := hrel
          clear HBi HFi
          by_cases hlt : k < 125
          · have hlk := HLQ.out.1 k hk
            have hlk1 := HLQ.out.1 (k + 1) (by omega)
            have hqk := HSZ.out _ hlk
            have hqk1 := HSZ.out _ hlk1
            have HC := H10.out k hlt wr
            have hi1 : (k : Int) < 125 := by omega
            have q0 := Lib.hid (page_range HB.out hlk)
            go_wp2_with (refine wpList_load_want (by rfl) 26 _ rfl g1 0 rfl (cellsB (QL k)) _ q0.out hup rfl hqk ?_)
            refine HC.mono ?_
            rintro e wa ⟨rfl, fa⟩
            clear q0 HC
            obtain ⟨wb, hwb⟩ : ∃ X, X = (wa.alloc (.cells (cellsB (nought 512)).toArray 26)).setCells wa.heap.size 0 (cellsB (QL (k + 1))) := ⟨_, rfl⟩
            have hbx := box_page hlk1 wb hwb
            have hbg := (HB.out.keep fa (fun q => q)).keep hbx.2 (fun q => q)
            have hthere := hbg.there (o := 0) (n := (cellsB (QL (k + 1))).toArray.size) (by simp [cellsB_len, hlk, hlk1])
            have hov := hbg.over (o := 0) (m := QL (k + 1)) (by omega)
            rw [patch_all (by omega)] at hov
            have HF2 := Lib.hid (Fr.setCells (vs := cellsB (QL (k + 1))) (o := 0) (.inr HG1.out) ((HF.out.trans fa (fun _ _ q => q)).trans hbx.2 (fun _ _ q => q)))
            have HOV := Lib.hid hov
            have q1 := Lib.hid (page_range hbx.1 hlk1)
            have HTH := Lib.hid hthere
            clear hov hthere hbg hbx fa HB HF
            subst hwb
            go_wp2_with (first | (refine wpList_load_want (by rfl) 26 _ rfl wa.heap.size 0 rfl (cellsB (QL (k + 1))) _ q1.out hup rfl hqk1 ?_) | (refine wpList_zero rfl 26 rfl zeroPage ?_) | (refine wpList_store_mid rfl 26 _ _ rfl wa.heap.size 0 (cellsB (QL (k + 1))).toArray rfl rfl (there_new wa hlk1) (by rw [infoPage]; simp [cellsB_len, hlk1]) (all_oneCell_toArray (cellsB_one _)) ?_) | (refine wpList_store_mid rfl 26 _ _ rfl g1 0 (cellsB (QL (k + 1))).toArray rfl rfl HTH.out (by rw [infoPage]; simp [cellsB_len, hlk1]) (all_oneCell_toArray (cellsB_one _)) ?_))
            exact ⟨⟨k + 1, by go_num, by omega, HOV, HF2⟩, by simp [intOf]; omega⟩
          · obtain rfl : k = 125 := by omega
            have hl125 := HLQ.out.1 125 (by omega)
            have hs125 := HSZ.out _ hl125
            have HL11 := Lib.hid (H11.out wr)
            have H12' := H12
            obtain ⟨L5, hL5⟩ : ∃ L, L = QL 125 := ⟨_, rfl⟩
            rw [← hL5] at HB H11 H12 H14 H15 hl125 hs125
            clear HL11 H12' H10 HLQ hlt hk hL5
            go_upto_region 17 with (fail)
            have q0 := Lib.hid (page_range HB.out hl125)
            go_wp2_with (refine wpList_load_want (by rfl) 26 _ rfl g1 0 rfl (cellsB L5) _ q0.out hup rfl hs125 ?_)
            refine (H11.out _).mono ?_
            rintro e x1 ⟨rfl, fe⟩
            clear q0 H11
            go_upto_region 18 with (first | (refine wpList_zero rfl 26 rfl zeroPage ?_) | (refine wpList_store_mid rfl 26 _ _ rfl x1.heap.size 0 (cellsB LZ).toArray rfl rfl (there_new x1 hlz) (by rw [infoPage]; simp [cellsB_len, hlz]) (all_oneCell_toArray (cellsB_one _)) ?_))
            obtain ⟨y1, hwx⟩ : ∃ X, X = (x1.alloc (.cells (cellsB (nought 512)).toArray 26)).setCells x1.heap.size 0 (cellsB LZ) := ⟨_, rfl⟩
            have hbx := box_page hlz y1 hwx
            have fe2 := fe.trans hbx.2 (fun _ _ q => q)
            have HB1x := Lib.hid (HB.out.keep fe2 (fun q => q))
            have HN1 := Lib.hid hbx.1
            have HF1x := Lib.hid (HF.out.trans fe2 (fun _ _ q => q))
            rw [← hwx]
            clear hwx hbx fe fe2 HF HB
            clear HN1
            have q0 := Lib.hid (page_range HB1x.out hl125)
            go_wp2_with (refine wpList_load_want (by rfl) 26 _ rfl g1 0 rfl (cellsB L5) _ q0.out hup rfl hs125 ?_)
            refine (H12.out _).mono ?_
            rintro e x2 ⟨rfl, fe⟩
            clear q0 H12
            go_upto_region 19 with (first | (refine wpList_zero rfl 26 rfl zeroPage ?_) | (refine wpList_store_mid rfl 26 _ _ rfl x2.heap.size 0 (cellsB LD).toArray rfl rfl (there_new x2 hlD) (by rw [infoPage]; simp [cellsB_len, hlD]) (all_oneCell_toArray (cellsB_one _)) ?_))
            obtain ⟨y2, hwx⟩ : ∃ X, X = (x2.alloc (.cells (cellsB (nought 512)).toArray 26)).setCells x2.heap.size 0 (cellsB LD) := ⟨_, rfl⟩
            have hbx := box_page hlD y2 hwx
            have fe2 := fe.trans hbx.2 (fun _ _ q => q)
            have HB2x := Lib.hid (HB1x.out.keep fe2 (fun q => q))
            have HN2 := Lib.hid hbx.1
            have HF2x := Lib.hid (HF1x.out.trans fe2 (fun _ _ q => q))
            rw [← hwx]
            clear hwx hbx fe fe2 HF1x HB1x
            have q0 := Lib.hid (page_range HN2.out hlD)
            go_wp2_with (refine wpList_load_want (by rfl) 26 _ rfl x2.heap.size 0 rfl (cellsB LD) _ q0.out hup rfl hsD ?_)
            refine (H13.out _).mono ?_
            rintro e x3 ⟨rfl, fe⟩
            clear q0 H13
            go_upto_region 20 with (first | (refine wpList_zero rfl 26 rfl zeroPage ?_) | (refine wpList_store_mid rfl 26 _ _ rfl x3.heap.size 0 (cellsB LE).toArray rfl rfl (there_new x3 hlE) (by rw [infoPage]; simp [cellsB_len, hlE]) (all_oneCell_toArray (cellsB_one _)) ?_))
            obtain ⟨y3, hwx⟩ : ∃ X, X = (x3.alloc (.cells (cellsB (nought 512)).toArray 26)).setCells x3.heap.size 0 (cellsB LE) := ⟨_, rfl⟩
            have hbx := box_page hlE y3 hwx
            have fe2 := fe.trans hbx.2 (fun _ _ q => q)
            have HB3x := Lib.hid (HB2x.out.keep fe2 (fun q => q))
            have HD3x := Lib.hid (HN2.out.keep fe2 (fun q => q))
            have HN3 := Lib.hid hbx.1
            have HF3x := Lib.hid (HF2x.out.trans fe2 (fun _ _ q => q))
            rw [← hwx]
            clear hwx hbx fe fe2 HF2x HB2x HN2
            clear HN3
            have q0 := Lib.hid (page_range HB3x.out hl125)
            go_wp2_with (refine wpList_load_want (by rfl) 26 _ rfl g1 0 rfl (cellsB L5) _ q0.out hup rfl hs125 ?_)
            refine (H14.out _).mono ?_
            rintro e z1 ⟨rfl, fe⟩
            clear q0 H14
            have HB4x := Lib.hid (HB3x.out.keep fe (fun q => q))
            have HD4x := Lib.hid (HD3x.out.keep fe (fun q => q))
            have HFz1 := Lib.hid (HF3x.out.trans fe (fun _ _ q => q))
            clear fe HF3x HB3x HD3x
            have q0 := Lib.hid (page_range HB4x.out hl125)
            go_wp2_with (refine wpList_load_want (by rfl) 26 _ rfl g1 0 rfl (cellsB L5) _ q0.out hup rfl hs125 ?_)
            refine (H15.out _).mono ?_
            rintro e z2 ⟨rfl, fe⟩
            clear q0 H15
            have HB5x := Lib.hid (HB4x.out.keep fe (fun q => q))
            have HD5x := Lib.hid (HD4x.out.keep fe (fun q => q))
            have HFz2 := Lib.hid (HFz1.out.trans fe (fun _ _ q => q))
            clear fe HFz1 HB4x HD4x
            have q0 := Lib.hid (page_range HD5x.out hlD)
            go_wp2_with (refine wpList_load_want (by rfl) 26 _ rfl x2.heap.size 0 rfl (cellsB LD) _ q0.out hup rfl hsD ?_)
            refine (H16.out _).mono ?_
            rintro e z3 ⟨rfl, fe⟩
            clear q0 H16
            have HB6x := Lib.hid (HB5x.out.keep fe (fun q => q))
            have HD6x := Lib.hid (HD5x.out.keep fe (fun q => q))
            have HFz3 := Lib.hid (HFz2.out.trans fe (fun _ _ q => q))
            clear fe HFz2 HB5x HD5x
            go_wp2_with fail
            refine (KN.out _).mono ?_
            rintro e z4 ⟨rfl, fe⟩
            have HFz4 := Lib.hid (HFz3.out.trans fe (fun _ _ q => q))
            clear fe
            go_wp2_with fail
            go_ret
            exact ⟨rfl, HFz4.out⟩
end Go.Proofs.Ytijdbngjnhhheaa
