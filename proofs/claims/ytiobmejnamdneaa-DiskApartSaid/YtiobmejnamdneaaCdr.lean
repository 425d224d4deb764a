/- The law's act: Read. -/
import Derived.Test.YtiobmejnamdneaaCdo
namespace Go.Proofs.Ytiobmejnamdneaa
open Go.RowKit Go.Maps
theorem zero_cells' : Value.agg Try.zeroCells31 = av (nought 128) := by kernel_rfl
section
variable {w : World} {B g g' : Nat} {d d1 : DS} {r r1 : RD} {a : ActD} {z : Int} {bb : Bool} {X Y : Nat → Prop}
set_option maxRecDepth 100000 in
set_option maxHeartbeats 2000000 in
theorem cdo5 (h : Duo w B X Y g g' d r) (hl : a.s.length = 128) (hk : a.k = 5) {j : Nat} (hj : a.a = (j : Int)) (hjd : j < d.rd.length) (HI0 : (decide (0 ≤ a.a) && decide (a.a < (r.V.length : Int))) = true) {ss : List (List UInt8)} (hss : r.V[j]? = some ss) (hlast : ss.getD (ss.length - 1) [] = d.rd.getD j []) :
    Calls Try.prog 7 #[.pointer (some ⟨g, 0, none⟩), .pointer (some ⟨g', 0, none⟩), .agg (actC a).toArray] w fun e w' => e = .returned (.bool true) ∧ Duo w' B X Y g g' d r ∧ Fr (fun b => B ≤ b ∧ ¬ X b) w w' := by
  have hD0 := h.box (.cells (actC a).toArray 34)
  have hb0 := Blk.new w 34 (actC a).toArray
  have fa := (Fr.refl (fun b => B ≤ b ∧ ¬ X b) w).alloc (.cells (actC a).toArray 34)
  have hBw := h.lt.1
  obtain ⟨c0, c1, c2, c3, c4⟩ := actB hb0 hl
  rw [hk] at c0
  have HL := Lib.hid hl
  have HI := Lib.hid HI0
  obtain ⟨s, hs⟩ : ∃ s, s = d.rd.getD j [] := ⟨_, rfl⟩
  have HX : Hid (s.length = 128) := Lib.hid (by rw [hs]; exact hD0.all hjd)
  have HWr := duo_read hD0 hjd
  rw [← hj] at HWr
  rw [← hs] at HWr hlast
  have HRd : Hid (∀ w0, Duo w0 B (fun b => b = w.heap.size ∨ X b) Y g g' d r → Calls Try.prog 11 #[.pointer (some ⟨g', 0, none⟩), .int .i64 a.a] w0 fun e w' => e = .returned (av s) ∧ Fr (fun _ => False) w0 w') := Lib.hid fun w0 hD => by
    have := duo_rread hD hss
    rw [← hj, hlast] at this
    exact this
  have H0 := Lib.hid (And.intro hb0 (And.intro fa hD0))
  clear h hl hk hD0 hb0 fa hBw c3 c4 hj hjd HI0 hss hlast hs
  go_enter Try.func7, Try.ntmps7
  go_wp2_with (refine wpList_put rfl 34 _ rfl _ rfl ?_)
  refine HWr.mono ?_
  rintro e w1 ⟨rfl, f1⟩
  have hb1 := H0.out.1.keep f1 (fun q => q)
  have hD1 := H0.out.2.2.new f1
  have HF1 := Lib.hid (H0.out.2.1.trans f1 (fun _ _ q => q.elim))
  have hbn := Blk.new w1 31 (cellsB (nought 128)).toArray
  clear f1 HWr H0 c0 c1 c2
  have f4 : Fr (fun _ => False) w1 ((w1.alloc (.cells (cellsB (nought 128)).toArray 31)).setCells w1.heap.size 0 (cellsB s)) := Fr.setCells (.inr (Nat.le_refl _)) ((Fr.refl _ w1).alloc _)
  have hb2 := hb1.keep f4 (fun q => q)
  obtain ⟨_, c1, _, _, _⟩ := actB hb2 HL.out
  go_wp2_with (first
    | (refine wpList_zero rfl 31 rfl zeroSector ?_)
    | (refine wpList_store_mid rfl 31 _ _ rfl w1.heap.size 0 (cellsB s).toArray rfl rfl (hbn.there (by simp [cellsB_len, nought_len, HX.out])) (by rw [infoSector]; simp [cellsB_len, HX.out]) (all_oneCell_toArray (cellsB_one _)) ?_))
  have hb4 := hbn.over (o := 0) (m := s) (by rw [nought_len, HX.out]; omega)
  rw [patch_all (by rw [nought_len, HX.out])] at hb4
  have HF2 := Lib.hid (HF1.out.trans f4 (fun _ _ q => q.elim))
  have hD2 := hD1.new f4
  generalize (w1.alloc (.cells (cellsB (nought 128)).toArray 31)).setCells w1.heap.size 0 (cellsB s) = w2 at *
  obtain ⟨bs, hbs⟩ : ∃ bs, bs = w1.heap.size := ⟨_, rfl⟩
  rw [← hbs] at hb4 ⊢
  obtain ⟨b0, hb0⟩ : ∃ b0, b0 = w.heap.size := ⟨_, rfl⟩
  rw [← hb0] at hb2 c1 ⊢
  have HIn := duo_rin hD2 a.a
  rw [HI.out] at HIn
  have HB2 := Lib.hid (And.intro hb2 (And.intro hb4 hD2))
  have HZ2 := Lib.hid (And.intro hb0 hbs)
  clear hb1 hD1 hbn f4 hb2 hb4 hD2 HF1 hb0 hbs
  refine HIn.mono ?_
  rintro e w' ⟨rfl, rfl⟩
  clear HIn
  have HC : Hid (∀ w', Fr (fun _ => False) w2 w' → w'.rangeAt bs 0 (cellsB s) ∧ w'.cell? ⟨b0, 1, none⟩ = some (.int .i64 a.a) ∧ Calls Try.prog 11 #[.pointer (some ⟨g', 0, none⟩), .int .i64 a.a] w' fun e w'' => e = .returned (av s) ∧ Fr (fun _ => False) w2 w'') := Lib.hid fun w' f =>
    ⟨by have q := Blk.range (HB2.out.2.1.keep f (fun q => q)) 0 128; rwa [List.drop_zero, List.take_of_length_le (Nat.le_of_eq HX.out)] at q, (actB (HB2.out.1.keep f (fun q => q)) HL.out).2.1, (HRd.out w' (HB2.out.2.2.new f)).mono fun e w3 he => ⟨he.1, f.trans he.2 (fun _ _ q => q)⟩⟩
  have hu := Try.underlying31
  have hszs : (Try.prog.info? 31).map (·.size) = some (cellsB s).length := by rw [infoSector, cellsB_len, HX.out]
  have heql : ∀ w, (binOp .eql 31 (.agg (cellsB s).toArray) (.agg (cellsB s).toArray)).run Try.prog w = .ok (.bool true) w := fun w => by
    have := sec_eql s s HX.out HX.out w
    simpa using this
  clear c1 HRd
  go_wp2_with fail
  refine wp_region_held_drew (S := fun w' => Fr (fun _ => False) w2 w') (by kernel_rfl) ((Fr.refl _ _).drew) (fun hS0 => ?_)
  refine anyH_take 0 95 (.int .i64 0) rfl rfl (by kernel_rfl) (by kernel_rfl) (by kernel_rfl) (fun _ _ _ h => h) (.inl ⟨by rfl, fun w'' hS => by go_simp⟩) hS0 ?_
  (simp only [List.setIfInBounds_toArray, List.set_cons_zero, List.set_cons_succ])
  refine anyH_take 1 96 (.bool true) rfl rfl (by kernel_rfl) (by kernel_rfl) (by kernel_rfl) (fun _ _ _ h => h) (.inl ⟨by rfl, fun w'' hS => by go_simp⟩) hS0 ?_
  (simp only [List.setIfInBounds_toArray, List.set_cons_zero, List.set_cons_succ])
  refine anyH_take 2 97 (.bool true) rfl rfl (by kernel_rfl) (by kernel_rfl) (by kernel_rfl) (fun _ _ _ h => h) (.inl ⟨by rfl, fun w'' hS => by go_simp⟩) hS0 ?_
  (simp only [List.setIfInBounds_toArray, List.set_cons_zero, List.set_cons_succ])
  refine anyH_take 3 98 (.agg (cellsB s).toArray) rfl rfl (by kernel_rfl) (by kernel_rfl) (by kernel_rfl) (fun _ _ _ h => h) (yieldsIf_load_mid (by rfl) _ _ rfl _ _ rfl _ _ (fun w' f => (HC.out w' f).1) hu rfl hszs) hS0 ?_
  (simp only [List.setIfInBounds_toArray, List.set_cons_zero, List.set_cons_succ])
  refine anyH_take 4 99 (.pointer (some ⟨g', 0, none⟩)) rfl rfl (by kernel_rfl) (by kernel_rfl) (by kernel_rfl) (fun _ _ _ h => h) (.inl ⟨by rfl, fun w'' hS => by go_simp⟩) hS0 ?_
  (simp only [List.setIfInBounds_toArray, List.set_cons_zero, List.set_cons_succ])
  refine anyH_take 5 100 (.pointer (some ⟨b0, 1, none⟩)) rfl rfl (by kernel_rfl) (by kernel_rfl) (by kernel_rfl) (fun _ _ _ h => h) (.inl ⟨by rfl, fun w'' hS => by go_simp⟩) hS0 ?_
  (simp only [List.setIfInBounds_toArray, List.set_cons_zero, List.set_cons_succ])
  refine anyH_take 6 101 (.int .i64 a.a) rfl rfl (by kernel_rfl) (by kernel_rfl) (by kernel_rfl) (fun _ _ _ h => h) (.inl ⟨by rfl, fun w'' hS => by have q0 := (HC.out w'' hS).2.1; go_simp⟩) hS0 ?_
  (simp only [List.setIfInBounds_toArray, List.set_cons_zero, List.set_cons_succ])
  refine anyH_one 7 102 (av s) (by kernel_rfl) (tame_call 102 rfl rfl (by rfl) (fun w'' hS => by go_simp) (fun w'' hS => (HC.out w'' hS).2.2)) hS0 (fun w3 hS0 => ?_)
  (simp only [List.setIfInBounds_toArray, List.set_cons_zero, List.set_cons_succ])
  refine anyH_take 8 103 (.bool true) rfl rfl (by kernel_rfl) (by kernel_rfl) (by kernel_rfl) (fun _ _ _ h => h) (.inl ⟨by rfl, fun w'' hS => by go_simp⟩) hS0 ?_
  (simp only [List.setIfInBounds_toArray, List.set_cons_zero, List.set_cons_succ])
  refine anyH_take 9 104 (.bool true) rfl rfl (by kernel_rfl) (by kernel_rfl) (by kernel_rfl) (fun _ _ _ h => h) (.inl ⟨by rfl, fun w'' hS => by go_simp⟩) hS0 ?_
  (simp only [List.setIfInBounds_toArray, List.set_cons_zero, List.set_cons_succ])
  refine anyH_take 10 6 (.bool true) rfl rfl (by kernel_rfl) (by kernel_rfl) (by kernel_rfl) (fun _ _ _ h => h) (.inl ⟨by rfl, fun w'' hS => by go_simp⟩) hS0 ?_
  (simp only [List.setIfInBounds_toArray, List.set_cons_zero, List.set_cons_succ])
  refine wpAnyH_done (by kernel_rfl) ?_ _
  have hD3 := HB2.out.2.2.new hS0
  have HF3 := Lib.hid (HF2.out.trans hS0 (fun _ _ q => q.elim))
  clear hu hszs heql HC hS0
  go_wp2_with fail
  go_ret
  exact ⟨rfl, hD3.less (fun _ q => .inr q), HF3.out⟩
set_option maxRecDepth 100000 in
set_option maxHeartbeats 2000000 in
theorem cdo5_bad (h : Duo w B X Y g g' d r) (hl : a.s.length = 128) (hk : a.k = 5) (HI0 : (decide (0 ≤ a.a) && decide (a.a < (r.V.length : Int))) = false) (hd : d.rd.length = r.V.length) :
    Calls Try.prog 7 #[.pointer (some ⟨g, 0, none⟩), .pointer (some ⟨g', 0, none⟩), .agg (actC a).toArray] w fun e w' => e = .returned (.bool true) ∧ Duo w' B X Y g g' d r ∧ Fr (fun b => B ≤ b ∧ ¬ X b) w w' := by
  have hD0 := h.box (.cells (actC a).toArray 34)
  have hb0 := Blk.new w 34 (actC a).toArray
  have fa := (Fr.refl (fun b => B ≤ b ∧ ¬ X b) w).alloc (.cells (actC a).toArray 34)
  have hBw := h.lt.1
  obtain ⟨c0, c1, c2, c3, c4⟩ := actB hb0 hl
  rw [hk] at c0
  have HL := Lib.hid hl
  have HI := Lib.hid HI0
  obtain ⟨s, hs⟩ : ∃ s, s = nought 128 := ⟨_, rfl⟩
  have HX : Hid (s.length = 128) := Lib.hid (by rw [hs, nought_len])
  have hout : a.a < 0 ∨ (d.rd.length : Int) ≤ a.a := by
    rw [hd]
    by_cases q : 0 ≤ a.a
    · right
      simp [q] at HI0
      exact HI0
    · left
      omega
  have HWr := duo_read_bad hD0 hout
  rw [← hs] at HWr
  have HS := Lib.hid hs
  have H0 := Lib.hid (And.intro hb0 (And.intro fa hD0))
  clear h hl hk hD0 hb0 fa hBw c3 c4 HI0 hd hout hs
  go_enter Try.func7, Try.ntmps7
  go_wp2_with (refine wpList_put rfl 34 _ rfl _ rfl ?_)
  refine HWr.mono ?_
  rintro e w1 ⟨rfl, f1⟩
  have hb1 := H0.out.1.keep f1 (fun q => q)
  have hD1 := H0.out.2.2.new f1
  have HF1 := Lib.hid (H0.out.2.1.trans f1 (fun _ _ q => q.elim))
  have hbn := Blk.new w1 31 (cellsB (nought 128)).toArray
  clear f1 HWr H0 c0 c1 c2
  have f4 : Fr (fun _ => False) w1 ((w1.alloc (.cells (cellsB (nought 128)).toArray 31)).setCells w1.heap.size 0 (cellsB s)) := Fr.setCells (.inr (Nat.le_refl _)) ((Fr.refl _ w1).alloc _)
  have hb2 := hb1.keep f4 (fun q => q)
  obtain ⟨_, c1, _, _, _⟩ := actB hb2 HL.out
  go_wp2_with (first
    | (refine wpList_zero rfl 31 rfl zeroSector ?_)
    | (refine wpList_store_mid rfl 31 _ _ rfl w1.heap.size 0 (cellsB s).toArray rfl rfl (hbn.there (by simp [cellsB_len, nought_len, HX.out])) (by rw [infoSector]; simp [cellsB_len, HX.out]) (all_oneCell_toArray (cellsB_one _)) ?_))
  have hb4 := hbn.over (o := 0) (m := s) (by rw [nought_len, HX.out]; omega)
  rw [patch_all (by rw [nought_len, HX.out])] at hb4
  have HF2 := Lib.hid (HF1.out.trans f4 (fun _ _ q => q.elim))
  have hD2 := hD1.new f4
  generalize (w1.alloc (.cells (cellsB (nought 128)).toArray 31)).setCells w1.heap.size 0 (cellsB s) = w2 at *
  obtain ⟨bs, hbs⟩ : ∃ bs, bs = w1.heap.size := ⟨_, rfl⟩
  rw [← hbs] at hb4 ⊢
  obtain ⟨b0, hb0⟩ : ∃ b0, b0 = w.heap.size := ⟨_, rfl⟩
  rw [← hb0] at hb2 c1 ⊢
  have HIn := duo_rin hD2 a.a
  rw [HI.out] at HIn
  have HB2 := Lib.hid (And.intro hb2 (And.intro hb4 hD2))
  have HZ2 := Lib.hid (And.intro hb0 hbs)
  clear hb1 hD1 hbn f4 hb2 hb4 hD2 HF1 hb0 hbs
  refine HIn.mono ?_
  rintro e w' ⟨rfl, rfl⟩
  clear HIn
  have HC : Hid (w2.rangeAt bs 0 (cellsB s)) := Lib.hid (by have q := Blk.range HB2.out.2.1 0 128; rwa [List.drop_zero, List.take_of_length_le (Nat.le_of_eq HX.out)] at q)
  have heql : ∀ w, (binOp .eql 31 (.agg (cellsB s).toArray) (.agg Try.zeroCells31)).run Try.prog w = .ok (.bool true) w := fun w => by
    rw [zero_cells']
    have := sec_eql s (nought 128) HX.out (nought_len _) w
    rw [HS.out] at this ⊢
    simpa using this
  clear c1
  go_wp2_with (refine wpList_load_want (by rfl) 31 _ rfl bs 0 rfl (cellsB s) _ HC.out Try.underlying31 rfl (by rw [infoSector, cellsB_len, HX.out]) ?_)
  go_ret
  exact ⟨rfl, HB2.out.2.2.less (fun _ q => .inr q), HF2.out⟩
end
end Go.Proofs.Ytiobmejnamdneaa
