/- The law's act: couponlaw03.do. -/
import Derived.Test.YtiobmejnamdneaaDuo
namespace Go.Proofs.Ytiobmejnamdneaa
open Go.RowKit Go.Maps

/-- An act as a value. -/
def actC (x : ActD) : List Value := .int .i64 x.k :: .int .i64 x.a :: .int .i64 x.n :: (cellsB x.s ++ [x.pv])
theorem actB {w : World} {b : Nat} {t : TypeId} {x : ActD} (h : Blk w b t (actC x).toArray) (hs : x.s.length = 128) :
    w.cell? ⟨b, 0, none⟩ = some (.int .i64 x.k) ∧ w.cell? ⟨b, 1, none⟩ = some (.int .i64 x.a) ∧ w.cell? ⟨b, 2, none⟩ = some (.int .i64 x.n) ∧ w.rangeAt b 3 (cellsB x.s) ∧ w.cell? ⟨b, 131, none⟩ = some x.pv := by
  have hl : (cellsB x.s).length = 128 := by rw [cellsB_len, hs]
  refine ⟨(h.cell 0).trans (by simp [actC]), (h.cell 1).trans (by simp [actC]), (h.cell 2).trans (by simp [actC]), fun j u hu => ?_, (h.cell 131).trans ?_⟩
  · rw [h.cell]
    have hj : j < (cellsB x.s).length := (List.getElem?_eq_some_iff.1 hu).1
    have e : 3 + j = j + 1 + 1 + 1 := by omega
    rw [e]
    simp only [actC, List.getElem?_toArray, List.getElem?_cons_succ]
    rw [List.getElem?_append_left hj]
    exact hu
  · simp only [actC, List.getElem?_toArray, List.getElem?_cons_succ]
    rw [List.getElem?_append_right (by omega), hl]
    rfl
section
variable {w : World} {B g g' : Nat} {d d1 : DS} {r r1 : RD} {a : ActD} {z : Int} {bb : Bool} {X Y : Nat → Prop}
set_option maxRecDepth 100000 in
set_option maxHeartbeats 2000000 in
theorem cdo1 (h : Duo w B X Y g g' d r) (hl : a.s.length = 128) (hk : a.k = 1) (HI : (decide (0 ≤ a.a) && decide (a.a < (r.V.length : Int))) = true)
    (HW : (∀ w0, Duo w0 B (fun b => b = w.heap.size ∨ X b) Y g g' d r → Calls Try.prog 16 #[.pointer (some ⟨g, 0, none⟩), .int .i64 a.a, av a.s] w0 fun e w' => e = .returned (.int .i64 (if bb then 0 else 10)) ∧ Duo w' B (fun b => b = w.heap.size ∨ X b) Y g g' d1 r ∧ Fr (fun b => B ≤ b ∧ ¬ (b = w.heap.size ∨ X b)) w0 w'))
    (HR : (∀ w0, Duo w0 B (fun b => b = w.heap.size ∨ X b) Y g g' d1 r → Calls Try.prog 23 #[.pointer (some ⟨g', 0, none⟩), .int .i64 a.a, av a.s] w0 fun e w' => e = .returned (.bool bb) ∧ Duo w' B (fun b => b = w.heap.size ∨ X b) Y g g' d1 r1 ∧ Fr (fun b => B ≤ b ∧ ¬ (b = w.heap.size ∨ X b)) w0 w')) :
    Calls Try.prog 7 #[.pointer (some ⟨g, 0, none⟩), .pointer (some ⟨g', 0, none⟩), .agg (actC a).toArray] w fun e w' => e = .returned (.bool true) ∧ Duo w' B X Y g g' d1 r1 ∧ Fr (fun b => B ≤ b ∧ ¬ X b) w w' := by
  have hD0 := h.box (.cells (actC a).toArray 34)
  have hb0 := Blk.new w 34 (actC a).toArray
  have fa := (Fr.refl (fun b => B ≤ b ∧ ¬ X b) w).alloc (.cells (actC a).toArray 34)
  have hBw := h.lt.1
  obtain ⟨c0, c1, c2, c3, c4⟩ := actB hb0 hl
  rw [hk] at c0
  obtain ⟨z, hz⟩ : ∃ z : Int, z = if bb then 0 else 10 := ⟨_, rfl⟩
  rw [← hz] at HW
  have HL := Lib.hid hl
  have HR3 := Lib.hid c3
  have HWr := HW _ hD0
  have H0 := Lib.hid (And.intro hb0 (And.intro fa hBw))
  have HRR := Lib.hid HR
  have HZ := Lib.hid hz
  clear h hl hk HW hD0 hb0 fa hBw c3 c4 HR hz
  go_enter Try.func7, Try.ntmps7
  go_wp2_with (first
    | (refine wpList_put rfl 34 _ rfl _ rfl ?_)
    | (refine wpList_load_mid rfl 31 _ rfl w.heap.size 3 rfl (cellsB a.s) _ HR3.out Try.underlying31 rfl (by rw [infoSector, cellsB_len, HL.out]) ?_))
  refine HWr.mono ?_
  rintro e w1 ⟨rfl, hD1, f1⟩
  have hb1 := H0.out.1.keep f1 (fun q => q.2 (.inl rfl))
  have HF1 := Lib.hid (H0.out.2.1.trans f1 (fun _ _ q => ⟨q.1, fun e => q.2 (.inr e)⟩))
  obtain ⟨_, c1, _, c3, _⟩ := actB hb1 HL.out
  have HIn := duo_rin hD1 a.a
  rw [HI] at HIn
  have HWr2 := HRR.out _ hD1
  have HR4 := Lib.hid c3
  clear hb1 c3 f1 HWr HI hD1
  go_wp2_with fail
  refine HIn.mono ?_
  rintro e w' ⟨rfl, rfl⟩
  clear HIn
  go_wp2_with (refine wpList_load_mid rfl 31 _ rfl w.heap.size 3 rfl (cellsB a.s) _ HR4.out Try.underlying31 rfl (by rw [infoSector, cellsB_len, HL.out]) ?_)
  refine HWr2.mono ?_
  rintro e w2 ⟨rfl, hD2, f2⟩
  have HE := errno_any w2 bb
  rw [← HZ.out] at HE
  have HF2 := Lib.hid (HF1.out.trans f2 (fun _ _ q => ⟨q.1, fun e => q.2 (.inr e)⟩))
  clear f2 HWr2
  go_wp2_with fail
  refine HE.mono ?_
  rintro e w' ⟨rfl, rfl⟩
  go_wp2_with fail
  go_ret
  exact ⟨rfl, hD2.less (fun _ q => .inr q), HF2.out⟩
set_option maxRecDepth 100000 in
set_option maxHeartbeats 2000000 in
theorem cdo1_bad (h : Duo w B X Y g g' d r) (hl : a.s.length = 128) (hk : a.k = 1) (HI : (decide (0 ≤ a.a) && decide (a.a < (r.V.length : Int))) = false) (hd : d.rd.length = r.V.length) :
    Calls Try.prog 7 #[.pointer (some ⟨g, 0, none⟩), .pointer (some ⟨g', 0, none⟩), .agg (actC a).toArray] w fun e w' => e = .returned (.bool true) ∧ Duo w' B X Y g g' d r ∧ Fr (fun b => B ≤ b ∧ ¬ X b) w w' := by
  have hD0 := h.box (.cells (actC a).toArray 34)
  have hb0 := Blk.new w 34 (actC a).toArray
  have fa := (Fr.refl (fun b => B ≤ b ∧ ¬ X b) w).alloc (.cells (actC a).toArray 34)
  have hBw := h.lt.1
  obtain ⟨c0, c1, c2, c3, c4⟩ := actB hb0 hl
  rw [hk] at c0
  have HL := Lib.hid hl
  have HR3 := Lib.hid c3
  have hout : a.a < 0 ∨ (d.rd.length : Int) ≤ a.a := by
    rw [hd]
    by_cases q : 0 ≤ a.a
    · right
      simp [q] at HI
      exact HI
    · left
      omega
  have HWr := duo_write_bad hD0 hout (s := a.s)
  have H0 := Lib.hid (And.intro hD0 (And.intro fa (And.intro hBw hb0)))
  clear h hl hk hD0 hb0 fa hBw c3 c4 hout hd
  go_enter Try.func7, Try.ntmps7
  go_wp2_with (first
    | (refine wpList_put rfl 34 _ rfl _ rfl ?_)
    | (refine wpList_load_mid rfl 31 _ rfl w.heap.size 3 rfl (cellsB a.s) _ HR3.out Try.underlying31 rfl (by rw [infoSector, cellsB_len, HL.out]) ?_))
  refine HWr.mono ?_
  rintro e w1 ⟨rfl, f1⟩
  have hb1 := H0.out.2.2.2.keep f1 (fun q => q)
  have hD1 := H0.out.1.new f1
  have HF1 := Lib.hid (H0.out.2.1.trans f1 (fun _ _ q => q.elim))
  obtain ⟨_, c1, _, _, _⟩ := actB hb1 HL.out
  have HIn := duo_rin hD1 a.a
  rw [HI] at HIn
  clear hb1 f1 HWr HI
  go_wp2_with fail
  refine HIn.mono ?_
  rintro e w' ⟨rfl, rfl⟩
  clear HIn
  go_wp2_with fail
  go_ret
  exact ⟨rfl, hD1.less (fun _ q => .inr q), HF1.out⟩
set_option maxRecDepth 100000 in
set_option maxHeartbeats 2000000 in
theorem cdo2 (h : Duo w B X Y g g' d r) (hl : a.s.length = 128) (hk : a.k = 2)
    (HW : (∀ w0, Duo w0 B (fun b => b = w.heap.size ∨ X b) Y g g' d r → Calls Try.prog 17 #[.pointer (some ⟨g, 0, none⟩)] w0 fun e w' => e = .returned (.int .i64 (if bb then 0 else 10)) ∧ Duo w' B (fun b => b = w.heap.size ∨ X b) Y g g' d1 r ∧ Fr (fun b => B ≤ b ∧ ¬ (b = w.heap.size ∨ X b)) w0 w'))
    (HR : (∀ w0, Duo w0 B (fun b => b = w.heap.size ∨ X b) Y g g' d1 r → Calls Try.prog 24 #[.pointer (some ⟨g', 0, none⟩)] w0 fun e w' => e = .returned (.bool bb) ∧ Duo w' B (fun b => b = w.heap.size ∨ X b) Y g g' d1 r1 ∧ Fr (fun b => B ≤ b ∧ ¬ (b = w.heap.size ∨ X b)) w0 w')) :
    Calls Try.prog 7 #[.pointer (some ⟨g, 0, none⟩), .pointer (some ⟨g', 0, none⟩), .agg (actC a).toArray] w fun e w' => e = .returned (.bool true) ∧ Duo w' B X Y g g' d1 r1 ∧ Fr (fun b => B ≤ b ∧ ¬ X b) w w' := by
  have hD0 := h.box (.cells (actC a).toArray 34)
  have hb0 := Blk.new w 34 (actC a).toArray
  have fa := (Fr.refl (fun b => B ≤ b ∧ ¬ X b) w).alloc (.cells (actC a).toArray 34)
  have hBw := h.lt.1
  obtain ⟨c0, c1, c2, c3, c4⟩ := actB hb0 hl
  rw [hk] at c0
  obtain ⟨z, hz⟩ : ∃ z : Int, z = if bb then 0 else 10 := ⟨_, rfl⟩
  rw [← hz] at HW
  have HL := Lib.hid hl
  have HWr := HW _ hD0
  have HF0 := Lib.hid fa
  have HRR := Lib.hid HR
  have HZ := Lib.hid hz
  clear h hl hk HW hD0 hb0 fa hBw c3 c4 HR hz
  go_enter Try.func7, Try.ntmps7
  go_wp2_with (refine wpList_put rfl 34 _ rfl _ rfl ?_)
  refine HWr.mono ?_
  rintro e w1 ⟨rfl, hD1, f1⟩
  have HF1 := Lib.hid (HF0.out.trans f1 (fun _ _ q => ⟨q.1, fun e => q.2 (.inr e)⟩))
  have HWr2 := HRR.out _ hD1
  clear f1 HWr hD1
  go_wp2_with fail
  refine HWr2.mono ?_
  rintro e w2 ⟨rfl, hD2, f2⟩
  have HE := errno_any w2 bb
  rw [← HZ.out] at HE
  have HF2 := Lib.hid (HF1.out.trans f2 (fun _ _ q => ⟨q.1, fun e => q.2 (.inr e)⟩))
  clear f2 HWr2
  go_wp2_with fail
  refine HE.mono ?_
  rintro e w' ⟨rfl, rfl⟩
  go_wp2_with fail
  go_ret
  exact ⟨rfl, hD2.less (fun _ q => .inr q), HF2.out⟩
set_option maxRecDepth 100000 in
set_option maxHeartbeats 2000000 in
theorem duo_fuse_neg (h : Duo w B X Y g g' d r) (k : Int) (hk : k < 0) : Calls Try.prog 25 #[.pointer (some ⟨g, 0, none⟩), .int .i64 k] w fun e w' => e = .returned (.int .i64 2) ∧ w = w' := by
  obtain ⟨P, v, vs, ⟨⟨R, M, D, val, k1⟩, _⟩, h2, h3, h4⟩ := h
  exact fuse_neg k1.blk k1.n0 k hk
set_option maxRecDepth 100000 in
set_option maxHeartbeats 2000000 in
theorem cdo3_neg (h : Duo w B X Y g g' d r) (hl : a.s.length = 128) (hk : a.k = 3) (hn : a.n < 0) :
    Calls Try.prog 7 #[.pointer (some ⟨g, 0, none⟩), .pointer (some ⟨g', 0, none⟩), .agg (actC a).toArray] w fun e w' => e = .returned (.bool true) ∧ Duo w' B X Y g g' d r ∧ Fr (fun b => B ≤ b ∧ ¬ X b) w w' := by
  have hD0 := h.box (.cells (actC a).toArray 34)
  have hb0 := Blk.new w 34 (actC a).toArray
  have fa := (Fr.refl (fun b => B ≤ b ∧ ¬ X b) w).alloc (.cells (actC a).toArray 34)
  have hBw := h.lt.1
  obtain ⟨c0, c1, c2, c3, c4⟩ := actB hb0 hl
  rw [hk] at c0
  have HWr := duo_fuse_neg hD0 a.n hn
  have H0 := Lib.hid (And.intro hD0 fa)
  clear h hl hk hD0 hb0 fa hBw c3 c4
  go_enter Try.func7, Try.ntmps7
  go_wp2_with (refine wpList_put rfl 34 _ rfl _ rfl ?_)
  refine HWr.mono ?_
  rintro e w' ⟨rfl, rfl⟩
  clear HWr
  go_wp2_with fail
  go_ret
  exact ⟨rfl, H0.out.1.less (fun _ q => .inr q), H0.out.2⟩
set_option maxRecDepth 100000 in
set_option maxHeartbeats 2000000 in
theorem cdo3 (h : Duo w B X Y g g' d r) (hl : a.s.length = 128) (hk : a.k = 3) (hn : ¬ a.n < 0) (hn1 : a.n ≤ 9223372036854775807) :
    Calls Try.prog 7 #[.pointer (some ⟨g, 0, none⟩), .pointer (some ⟨g', 0, none⟩), .agg (actC a).toArray] w fun e w' => e = .returned (.bool true) ∧ Duo w' B X Y g g' { d with fu := true, lf := a.n } { r with left := a.n } ∧ Fr (fun b => B ≤ b ∧ ¬ X b) w w' := by
  have hD0 := h.box (.cells (actC a).toArray 34)
  have hb0 := Blk.new w 34 (actC a).toArray
  have fa := (Fr.refl (fun b => B ≤ b ∧ ¬ X b) w).alloc (.cells (actC a).toArray 34)
  have hBw := h.lt.1
  obtain ⟨c0, c1, c2, c3, c4⟩ := actB hb0 hl
  rw [hk] at c0
  have HL := Lib.hid hl
  have HWr := duo_fuse hD0 a.n hn hn1
  have H0 := Lib.hid (And.intro hb0 fa)
  clear h hl hk hD0 hb0 fa hBw c3 c4 hn1
  go_enter Try.func7, Try.ntmps7
  go_wp2_with (refine wpList_put rfl 34 _ rfl _ rfl ?_)
  refine HWr.mono ?_
  rintro e w1 ⟨rfl, hD1, f1⟩
  have hb1 := H0.out.1.keep f1 (fun q => q.2 (.inl rfl))
  have HF1 := Lib.hid (H0.out.2.trans f1 (fun _ _ q => ⟨q.1, fun e => q.2 (.inr e)⟩))
  obtain ⟨_, _, c2, _, _⟩ := actB hb1 HL.out
  obtain ⟨⟨u, hu⟩, hfz, hD2, f2⟩ := duo_rfuse hD1 a.n
  have HD2 := Lib.hid (And.intro hD2 f2)
  clear hb1 f1 HWr hD1 hD2 f2
  go_wp2_with fail
  go_ret
  exact ⟨rfl, HD2.out.1.less (fun _ q => .inr q), HF1.out.trans HD2.out.2 (fun _ _ q => ⟨q.1, fun e => q.2 (.inr e)⟩)⟩
theorem IntsAt.keep0 {F : Nat → Prop} {w w' : World} {v : Value} {zs : List Int} (h : IntsAt w v zs) (f : Fr F w w') (hF : ∀ b, v.ownBlock = some b → 0 < zs.length → ¬ F b) : IntsAt w' v zs := by
  by_cases q : 0 < zs.length
  · exact h.keep f (fun b hb => hF b hb q)
  · obtain ⟨A, c, e, h1, _⟩ := h
    exact ⟨A, c, e, h1, fun q' => absurd q' q⟩
set_option maxRecDepth 100000 in
set_option maxHeartbeats 2000000 in
theorem cdo4 (h : Duo w B X Y g g' d r) (hl : a.s.length = 128) (hk : a.k = 4) (hp : IntsAt w a.pv a.ps) (hpF : ∀ b, a.pv.ownBlock = some b → 0 < a.ps.length → b < B) (hpz : ∀ z ∈ a.ps, -9223372036854775808 ≤ z ∧ z ≤ 9223372036854775807)
    (hn : 0 < r.V.length) (hn8 : r.V.length ≤ 8192) (hN : ∀ (i : Nat) ss, r.V[i]? = some ss → ss.length ≤ 10000) (hM : d.most 1000000) :
    Calls Try.prog 7 #[.pointer (some ⟨g, 0, none⟩), .pointer (some ⟨g', 0, none⟩), .agg (actC a).toArray] w fun e w' => e = .returned (.bool true) ∧ Duo w' B X Y g g' (d.crash a.ps) (r.crash a.ps) ∧ Fr (fun b => B ≤ b ∧ ¬ X b) w w' := by
  have hD0 := h.box (.cells (actC a).toArray 34)
  have hb0 := Blk.new w 34 (actC a).toArray
  have fa := (Fr.refl (fun b => B ≤ b ∧ ¬ X b) w).alloc (.cells (actC a).toArray 34)
  have hBw := h.lt.1
  obtain ⟨c0, c1, c2, c3, c4⟩ := actB hb0 hl
  rw [hk] at c0
  have HL := Lib.hid hl
  have hp0 := hp.new ((Fr.refl (fun _ => False) w).alloc (.cells (actC a).toArray 34))
  have HWr := duo_rcrash hD0 hn hn8 hN hp0 hpF hpz
  have H0 := Lib.hid (And.intro hb0 (And.intro fa (And.intro hp0 (And.intro hpF hM))))
  clear h hl hk hD0 hb0 fa hBw c3 hn hn8 hN hp hp0 hpF hpz hM
  go_enter Try.func7, Try.ntmps7
  go_wp2_with (refine wpList_put rfl 34 _ rfl _ rfl ?_)
  refine HWr.mono ?_
  rintro e w1 ⟨rfl, hD1, f1⟩
  have hb1 := H0.out.1.keep f1 (fun q => q.2 (.inl rfl))
  have HF1 := Lib.hid (H0.out.2.1.trans f1 (fun _ _ q => ⟨q.1, fun e => q.2 (.inr e)⟩))
  obtain ⟨_, _, _, _, c4⟩ := actB hb1 HL.out
  have HW2 := duo_crash hD1 (H0.out.2.2.1.keep0 f1 (fun b hb q e => by
    have := H0.out.2.2.2.1 b hb q
    omega)) H0.out.2.2.2.1 H0.out.2.2.2.2
  clear hb1 f1 HWr hD1
  go_wp2_with fail
  refine HW2.mono ?_
  rintro e w2 ⟨rfl, hD2, f2⟩
  have HF2 := Lib.hid (HF1.out.trans f2 (fun _ _ q => ⟨q.1, fun e => q.2 (.inr e)⟩))
  clear f2 HW2
  go_wp2_with fail
  go_ret
  exact ⟨rfl, hD2.less (fun _ q => .inr q), HF2.out⟩
set_option maxRecDepth 100000 in
set_option maxHeartbeats 2000000 in
theorem cdo_none (h : Duo w B X Y g g' d r) (hl : a.s.length = 128) {q : Int} (hk : a.k = q) (h1 : q ≠ 1) (h2 : q ≠ 2) (h3 : q ≠ 3) (h4 : q ≠ 4) (h5 : q ≠ 5) :
    Calls Try.prog 7 #[.pointer (some ⟨g, 0, none⟩), .pointer (some ⟨g', 0, none⟩), .agg (actC a).toArray] w fun e w' => e = .returned (.bool true) ∧ Duo w' B X Y g g' d r ∧ Fr (fun b => B ≤ b ∧ ¬ X b) w w' := by
  have hD0 := h.box (.cells (actC a).toArray 34)
  have hb0 := Blk.new w 34 (actC a).toArray
  have fa := (Fr.refl (fun b => B ≤ b ∧ ¬ X b) w).alloc (.cells (actC a).toArray 34)
  have hBw := h.lt.1
  obtain ⟨c0, c1, c2, c3, c4⟩ := actB hb0 hl
  rw [hk] at c0
  have H0 := Lib.hid (And.intro hD0 fa)
  clear h hl hk hD0 hb0 fa hBw c3 c4
  go_enter Try.func7, Try.ntmps7
  go_wp2_with (refine wpList_put rfl 34 _ rfl _ rfl ?_)
  go_ret
  exact ⟨rfl, H0.out.1.less (fun _ q => .inr q), H0.out.2⟩
end
end Go.Proofs.Ytiobmejnamdneaa
