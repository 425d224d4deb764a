/- The tag of a sector's first half; torn sectors. -/
import Derived.Test.YtbnegiiombnnaaaHd
namespace Go.Proofs.Ytbnegiiombnnaaa
open Go.RowKit

/-- The tag that stands in a half: noughts, where none may be. -/
def tagOf (s : List UInt8) : Nat × Nat := let x := hdOf (s.take 64); if mayT x.c (x.n : Int) then (x.c, x.n) else (0, 0)
abbrev tagV (t : Nat × Nat) : Value := .agg #[.int .u64 (t.1 : Nat), .int .i64 (t.2 : Nat)]

theorem cut0_any (w : World) (s : List UInt8) (hs : s.length = 128) : Calls Try.prog 33 #[av s, .int .i64 0] w fun e w' => e = .returned (av (s.take 64)) ∧ Fr (fun _ => False) w w' := by
  have := cut_any w s hs 0 (by omega)
  simpa using this
theorem cut1_any (w : World) (s : List UInt8) (hs : s.length = 128) : Calls Try.prog 33 #[av s, .int .i64 1] w fun e w' => e = .returned (av (s.drop 64)) ∧ Fr (fun _ => False) w w' := by
  have := cut_any w s hs 1 (by omega)
  have e : (s.drop (64 * 1)).take 64 = s.drop 64 := by rw [List.take_of_length_le]; simp [hs]
  rw [e] at this
  exact this
theorem headOf_is (w : World) (h : List UInt8) (hl : h.length = 64) {c n q m : Nat} (e : hdOf h = ⟨c, n, q, m⟩) : Calls Try.prog 32 #[av h] w fun e w' => e = .returned (.agg #[.int .u64 (c : Nat), .int .i64 (n : Nat), .int .i64 (q : Nat), .int .i64 (m : Nat)]) ∧ Fr (fun _ => False) w w' := by
  have := headOf_any w h hl
  rw [e] at this
  exact this
theorem field_tag (w : World) (c n q m : Int) : (Instr.field 64 (.agg #[.int .u64 c, .int .i64 n, .int .i64 q, .int .i64 m]) 0).run Try.prog w = .ok (.agg #[.int .u64 c, .int .i64 n]) w := by kernel_rfl
theorem infoTag : (Try.prog.info? 24).map (·.size) = some 2 := by kernel_rfl
set_option maxRecDepth 100000 in
theorem tag_any (w : World) (s : List UInt8) (hs : s.length = 128) : Calls Try.prog 16 #[av s] w fun e w' => e = .returned (tagV (tagOf s)) ∧ Fr (fun _ => False) w w' := by
  have HC := Lib.hid fun w => cut0_any w s hs
  have hl : (s.take 64).length = 64 := by simp [hs]
  have HT : Hid (tagOf s = let x := hdOf (s.take 64); if mayT x.c (x.n : Int) then (x.c, x.n) else (0, 0)) := Lib.hid rfl
  obtain ⟨t, ht⟩ : ∃ t, t = tagOf s := ⟨_, rfl⟩
  rw [← ht] at HT ⊢
  generalize s.take 64 = h at *
  obtain ⟨x, hx⟩ : ∃ x, x = hdOf h := ⟨_, rfl⟩
  rw [← hx] at HT
  obtain ⟨c, n, q, m⟩ := x
  have HH := Lib.hid fun w => headOf_is w h hl hx.symm
  clear ht hx hl
  have hB : ∀ X, Blk ((w.alloc (.cells (cellsB s).toArray 37)).alloc X) w.heap.size 37 (cellsB s).toArray := fun X =>
    (Blk.new w _ _).keep (F := fun _ => False) ((Fr.refl _ _).alloc X) (fun h => h)
  have HR : Hid (∀ X, ((w.alloc (.cells (cellsB s).toArray 37)).alloc X).rangeAt w.heap.size 0 (cellsB s)) := Lib.hid fun X => by
    have := (hB X).range 0 128
    rw [List.drop_zero, List.take_of_length_le (Nat.le_of_eq hs)] at this
    exact this
  clear hB
  have hfld := fun w => field_tag w (c : Nat) (n : Nat) (q : Nat) (m : Nat)
  go_enter Try.func16, Try.ntmps16
  go_wp2_with (first
    | (refine wpList_put rfl 37 _ rfl _ rfl ?_)
    | (refine wpList_load_mid rfl 37 _ rfl w.heap.size 0 rfl (cellsB s) _ (HR.out _) Try.underlying37 rfl (by rw [infoSector, cellsB_len, hs]) ?_))
  (with_reducible refine (HC.out _).mono ?_)
  rintro e w1 ⟨rfl, hf1⟩
  have hres : Blk ((w.alloc (.cells (cellsB s).toArray 37)).alloc (.cells #[.int .u64 0, .int .i64 0] 24)) (w.heap.size + 1) 24 #[.int .u64 0, .int .i64 0] := by
    have := Blk.new (w.alloc (.cells (cellsB s).toArray 37)) 24 #[.int .u64 0, .int .i64 0]
    simpa using this
  have H1 := Lib.hid (And.intro (hres.keep hf1 (fun q => q)) (((Fr.refl (fun _ => False) w).alloc _ |>.alloc _).trans hf1 (fun _ _ q => q)))
  clear hf1 hres
  go_wp2_with fail
  (with_reducible refine (HH.out _).mono ?_)
  rintro e w2 ⟨rfl, hf2⟩
  have H2 := Lib.hid (And.intro (H1.out.1.keep hf2 (fun q => q)) (H1.out.2.trans hf2 (fun _ _ q => q)))
  clear hf2
  go_wp2_with fail
  refine (may_any _ c (n : Int)).mono ?_
  rintro e w3 ⟨rfl, hf3⟩
  have HD : Hid (w2.heap.size < (w2.alloc (.cells #[.int .u64 (c : Nat), .int .i64 (n : Nat)] 24)).heap.size) := Lib.hid (by simp)
  have j1 := (H2.out.1.keep (F := fun _ => False) ((Fr.refl _ _).alloc (.cells #[.int .u64 (c : Nat), .int .i64 (n : Nat)] 24)) (fun q => q)).keep hf3 (fun q => q)
  have j2 := (Blk.new w2 24 #[.int .u64 (c : Nat), .int .i64 (n : Nat)]).keep hf3 (fun q => q)
  have c0 := j2.cell 0
  have c1 := j2.cell 1
  have g0 := j1.cell 0
  have g1 := j1.cell 1
  have k0 := j1.frozen 0
  have k1 := j1.frozen 1
  simp at c0 c1 g0 g1
  have H3 := Lib.hid (And.intro j1 ((H2.out.2.alloc (.cells #[.int .u64 (c : Nat), .int .i64 (n : Nat)] 24)).trans hf3 (fun _ _ q => q)))
  clear hf3 j1 j2
  cases hm : mayT c (n : Int)
  · have ht : t = (0, 0) := by rw [HT.out]; simp [hm]
    subst ht
    go_wp2_with fail
    refine bodyPost_ret (results_cell_row rfl _ _ (w.heap.size + 1) 24 #[.int .u64 ((0 : Nat) : Int), .int .i64 ((0 : Nat) : Int)] (0, 0) _ rfl ?_ Try.underlying24 rfl infoTag) rfl ?_
    · exact (H3.out.1.set_ 0 _).set_ 1 _
    · exact ⟨rfl, (H3.out.2.setCell (p := ⟨w.heap.size + 1, 0, none⟩) (.inr (Nat.le_succ _)) _).setCell (p := ⟨w.heap.size + 1, 1, none⟩) (.inr (Nat.le_succ _)) _⟩
  · have ht : t = (c, n) := by rw [HT.out]; simp [hm]
    subst ht
    go_wp2_with fail
    refine bodyPost_ret (results_cell_row rfl _ _ (w.heap.size + 1) 24 #[.int .u64 (c : Int), .int .i64 (n : Int)] (0, 0) _ rfl ?_ Try.underlying24 rfl infoTag) rfl ?_
    · exact (H3.out.1.set_ 0 _).set_ 1 _
    · exact ⟨rfl, (H3.out.2.setCell (p := ⟨w.heap.size + 1, 0, none⟩) (.inr (Nat.le_succ _)) _).setCell (p := ⟨w.heap.size + 1, 1, none⟩) (.inr (Nat.le_succ _)) _⟩

theorem alloc3 (w : World) (C0 C1 C2 : Array Value) (t0 t1 t2 : TypeId) : ∃ W, W = ((w.alloc (.cells C0 t0)).alloc (.cells C1 t1)).alloc (.cells C2 t2) ∧ Blk W w.heap.size t0 C0 ∧ Blk W (w.heap.size + 1) t1 C1 ∧ Blk W (w.heap.size + 1 + 1) t2 C2 ∧ W.heap.size = w.heap.size + 3 ∧ Fr (fun _ => False) w W := by
  have k : ∀ {W : World} {g : Nat} {t : TypeId} {cs : Array Value} (o : Obj), Blk W g t cs → Blk (W.alloc o) g t cs := fun o h => h.keep (F := fun _ => False) ((Fr.refl _ _).alloc o) (fun q => q)
  have n : ∀ (W : World) (t : TypeId) (C : Array Value) (g : Nat), W.heap.size = g → Blk (W.alloc (.cells C t)) g t C := fun W t C g e => e ▸ Blk.new W t C
  exact ⟨_, rfl, k _ (k _ (n _ _ _ _ rfl)), k _ (n _ _ _ _ (by simp)), n _ _ _ _ (by simp), by simp, (((Fr.refl _ w).alloc _).alloc _).alloc _⟩

/-- A sector of two ones' halves. -/
def tornOf (a b : List UInt8) : List UInt8 := a.take 64 ++ b.drop 64
set_option maxRecDepth 100000 in
theorem torn_any (w : World) (a b : List UInt8) (ha : a.length = 128) (hb : b.length = 128) : Calls Try.prog 18 #[av a, av b] w fun e w' => e = .returned (av (tornOf a b)) ∧ Fr (fun _ => False) w w' := by
  go_enter Try.func18, Try.ntmps18
  go_wp2_with (first
    | (refine wpList_zero rfl 37 rfl zeroSector ?_)
    | (refine wpList_put rfl 37 _ rfl _ rfl ?_))
  obtain ⟨W, hW, k0, k1, k2, hsz, hfr⟩ := alloc3 w (cellsB a).toArray (cellsB b).toArray (cellsB (nought 128)).toArray 37 37 37
  rw [← hW]
  have hcp : ∀ ty, (Builtin.copy_ #[25, 25] ty #[.slice (some ⟨w.heap.size, 64, none⟩) 64 64, .slice (some ⟨w.heap.size + 1, 64, none⟩) 64 64]).run Try.prog W.drew = .ok (goInt 64) (W.drew.setCells w.heap.size 64 (cellsB (b.drop 64))) := fun ty => by
    have hl : (b.drop 64).length = 64 := by simp [hb]
    have h := run_copy_cells (P := Try.prog) W.drew 25 25 ty 5 w.heap.size 64 64 64 ⟨w.heap.size + 1, 64, none⟩ 64 64 (cellsB (b.drop 64)) Try.underlying25 (by kernel_rfl) (by rw [cellsB_len, hl]; rfl)
      (fun j v hv => by rw [Addr.add_mid]; exact (k1.range 64 64) j v (by rw [List.take_of_length_le (Nat.le_of_eq hl)]; exact hv)) (fun j hj => ((k0.there (o := 64) (n := 64) (by simp [cellsB_len, ha])) j (by rw [cellsB_len, hl] at hj; exact hj)).1) (fun j hj => ((k0.there (o := 64) (n := 64) (by simp [cellsB_len, ha])) j (by rw [cellsB_len, hl] at hj; exact hj)).2) (cellsB_one _)
    rw [cellsB_len, hl] at h
    exact h
  have HK := Lib.hid (And.intro k0 (And.intro k1 (And.intro k2 (And.intro hsz hfr))))
  clear hW k0 k1 k2 hsz hfr
  go_wp2_with fail
  go_region
  clear hcp
  have hbl : (b.drop 64).length = 64 := by simp [hb]
  have t1 := Blk.over (w := W.drew) (o := 64) (m := b.drop 64) HK.out.1 (by rw [hbl, ha]; omega)
  have e1 : patch a 64 (b.drop 64) = tornOf a b := by
    have h1 : a.drop 128 = [] := List.drop_eq_nil_of_le (by omega)
    simp [patch, tornOf, hb, h1]
  rw [e1] at t1
  have fB : Fr (fun k => k = w.heap.size) W.drew (W.drew.setCells w.heap.size 64 (cellsB (b.drop 64))) := Fr.setCells (F := fun k => k = w.heap.size) (.inl rfl) (Fr.refl _ _)
  have t2 := Blk.keep (w := W.drew) HK.out.2.2.1 fB (by omega)
  have t3 : Fr (fun _ => False) w (W.drew.setCells w.heap.size 64 (cellsB (b.drop 64))) := Fr.setCells (.inr (Nat.le_refl _)) HK.out.2.2.2.2.drew
  generalize W.drew.setCells w.heap.size 64 (cellsB (b.drop 64)) = w6 at *
  have hlt : (tornOf a b).length = 128 := by simp [tornOf, ha, hb]
  have H6 := Lib.hid (And.intro t1 (And.intro t2 t3))
  clear t1 t2 t3 fB e1
  generalize hz : tornOf a b = z at *
  have HZ := Lib.hid hz
  clear hz
  have HR : Hid (w6.rangeAt w.heap.size 0 (cellsB z)) := Lib.hid (by
    have := H6.out.1.range 0 128
    rw [List.drop_zero, List.take_of_length_le (Nat.le_of_eq hlt)] at this
    exact this)
  go_wp2_with (first
    | (refine wpList_load_mid rfl 37 _ rfl w.heap.size 0 rfl (cellsB z) _ HR.out Try.underlying37 rfl (by rw [infoSector, cellsB_len, hlt]) ?_)
    | (refine wpList_store_mid rfl 37 _ _ rfl (w.heap.size + 1 + 1) 0 (cellsB z).toArray rfl rfl (H6.out.2.1.there (by simp [cellsB_len, nought_len, hlt])) (by rw [infoSector]; simp [cellsB_len, hlt]) (all_oneCell_toArray (cellsB_one _)) ?_))
  refine bodyPost_ret (results_cell_row rfl _ _ (w.heap.size + 1 + 1) 37 (cellsB z).toArray (0, 0) _ rfl ?_ Try.underlying37 rfl (by rw [infoSector]; simp [cellsB_len, hlt])) rfl ?_
  · have := H6.out.2.1.over (o := 0) (m := z) (by rw [nought_len, hlt]; omega)
    rw [patch_all (by rw [nought_len, hlt])] at this
    exact this
  · exact ⟨by rw [HZ.out], Fr.setCells (.inr (by omega)) H6.out.2.2⟩
end Go.Proofs.Ytbnegiiombnnaaa
