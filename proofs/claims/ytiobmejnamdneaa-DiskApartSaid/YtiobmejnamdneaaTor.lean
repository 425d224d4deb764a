/- couponlaw03.full; disk.torn; couponref03.Torn. -/
import Derived.Test.YtiobmejnamdneaaDar
namespace Go.Proofs.Ytiobmejnamdneaa
open Go.RowKit

/-- A sector full of a byte; the first half of one, the other half of another one. -/
def fullL (c : UInt8) : List UInt8 := List.replicate 128 c
theorem fullL_len (c : UInt8) : (fullL c).length = 128 := by simp [fullL]
def tornL (x y : List UInt8) : List UInt8 := x.take 64 ++ y.drop 64
theorem tornL_len {x y : List UInt8} (hx : x.length = 128) (hy : y.length = 128) : (tornL x y).length = 128 := by simp [tornL, hx, hy]

theorem patch_one {l m : List UInt8} {o : Nat} {q : UInt8} (h : o + m.length < l.length) : (patch l o m).set (o + m.length) q = patch l o (m ++ [q]) := by
  unfold patch
  have h1 : (l.take o).length = o := by rw [List.length_take]; omega
  rw [List.set_append_right _ _ (by omega), h1, List.set_append_right _ _ (by omega)]
  have h2 : o + m.length - o - m.length = 0 := by omega
  rw [h2]
  have h3 : l.drop (o + m.length) = l[o + m.length] :: l.drop (o + m.length + 1) := List.drop_eq_getElem_cons h
  rw [h3]
  simp [Nat.add_assoc]
theorem Blk.one {w : World} {B : Nat} {t : TypeId} {l m : List UInt8} {o : Nat} (h : Blk w B t (cellsB (patch l o m)).toArray) (hm : o + m.length < l.length) (q : UInt8) :
    Blk (w.setCell ⟨B, o + m.length, none⟩ (.int .u8 (q.toNat : Int))) B t (cellsB (patch l o (m ++ [q]))).toArray := by
  have h6 := h.set_ (o + m.length) (.int .u8 (q.toNat : Int))
  rw [← patch_one hm]
  simpa [cellsB, List.map_set] using h6
theorem sec_range {w : World} {b : Nat} {l : List UInt8} (hl : l.length = 128) (h : Blk w b 31 (cellsB l).toArray) : w.rangeAt b 0 (cellsB l) := by
  have := h.range 0 128
  rwa [List.drop_zero, List.take_of_length_le (by omega)] at this

set_option maxRecDepth 100000 in
theorem full_any (w : World) (c : UInt8) : Calls Try.prog 13 #[.int .u8 (c.toNat : Int)] w fun e w' => e = .returned (av (fullL c)) ∧ Fr (fun _ => False) w w' := by
  have hb0 := (Blk.new w 31 (cellsB (nought 128)).toArray).keep (F := fun _ => False) ((Fr.refl _ _).alloc (.cells (cellsB (nought 128)).toArray 31)) (fun h => h)
  have hb1 := Blk.new (w.alloc (.cells (cellsB (nought 128)).toArray 31)) 31 (cellsB (nought 128)).toArray
  have hs1 : (w.alloc (.cells (cellsB (nought 128)).toArray 31)).heap.size = w.heap.size + 1 := by simp
  rw [hs1] at hb1
  have hf0 := ((Fr.refl (fun _ => False) w).alloc (.cells (cellsB (nought 128)).toArray 31)).alloc (.cells (cellsB (nought 128)).toArray 31)
  have HB := Lib.hid (And.intro hb0 (And.intro hb1 hf0))
  clear hb0 hb1 hf0
  go_enter Try.func13, Try.ntmps13
  go_wp2_with (refine wpList_zero rfl 31 rfl zeroSector ?_)
  generalize (w.alloc (.cells (cellsB (nought 128)).toArray 31)).alloc (.cells (cellsB (nought 128)).toArray 31) = w1 at *
  go_loopw [4] (fun i wr => ∃ k : Nat, i = .int .i64 k ∧ k ≤ 128 ∧ Hid (Blk wr w.heap.size 31 (cellsB (nought 128)).toArray ∧ Blk wr (w.heap.size + 1) 31 (cellsB (patch (nought 128) 0 (List.replicate k c))).toArray ∧ Fr (fun _ => False) w wr)) (fun i _ => 128 - (intOf i).toNat)
  case atStart => exact ⟨0, rfl, Nat.zero_le _, Lib.hid (by simpa [patch] using HB.out)⟩
  case round =>
    obtain ⟨k, rfl, hk, HR⟩ := hrel
    clear HB
    by_cases hlt : k < 128
    · have hml : (List.replicate k c).length = k := by simp
      have hpl : (patch (nought 128) 0 (List.replicate k c)).length = 128 := by rw [patch_len (by rw [nought_len, hml]; omega), nought_len]
      have hcb : ∃ v, wr.cell? ⟨w.heap.size + 1, k, none⟩ = some v := by
        rw [HR.out.2.1.cell]
        exact ⟨_, Array.getElem?_eq_getElem (by simp [cellsB_len, hpl]; omega)⟩
      obtain ⟨vb, hvb⟩ := hcb
      have hfb := HR.out.2.1.frozen k
      have hi0 : (0 : Int) ≤ (k : Int) := by omega
      have hi1 : (k : Int) < 128 := by omega
      clear hpl
      go_wp2_with fail
      have h1 := HR.out.2.1.one (q := c) (by rw [nought_len, hml]; omega)
      rw [hml, Nat.zero_add, ← List.replicate_succ'] at h1
      have hg : Fr (fun i => i = w.heap.size + 1) wr (wr.setCell ⟨w.heap.size + 1, k, none⟩ (.int .u8 (c.toNat : Int))) := (Fr.refl (fun i => i = w.heap.size + 1) wr).setCell (p := ⟨w.heap.size + 1, k, none⟩) (.inl rfl) _
      exact ⟨⟨k + 1, by go_num, hlt, Lib.hid ⟨HR.out.1.keep hg (by omega), h1, HR.out.2.2.setCell (p := ⟨w.heap.size + 1, k, none⟩) (.inr (by simp)) _⟩⟩, by simp [intOf]; omega⟩
    · have hk8 : k = 128 := by omega
      have hni : ¬ ((k : Int) < 128) := by omega
      have hp : patch (nought 128) 0 (List.replicate k c) = fullL c := by rw [hk8]; exact patch_all (by simp [nought_len])
      rw [hp] at HR
      clear hp hk8
      have hrg := sec_range (fullL_len c) HR.out.2.1
      go_wp2_with (first
        | (refine wpList_load_mid rfl 31 _ rfl (w.heap.size + 1) 0 rfl (cellsB (fullL c)) _ hrg Try.underlying31 rfl (by rw [infoSector, cellsB_len, fullL_len]) ?_)
        | (refine wpList_store_mid rfl 31 _ _ rfl w.heap.size 0 (cellsB (fullL c)).toArray rfl rfl (HR.out.1.there (by simp [cellsB_len, nought_len, fullL_len])) (by rw [infoSector]; simp [cellsB_len, fullL_len]) (all_oneCell_toArray (cellsB_one _)) ?_))
      refine bodyPost_ret (results_cell_row rfl _ _ w.heap.size 31 (cellsB (fullL c)).toArray (0, 0) _ rfl ?_ Try.underlying31 rfl (by rw [infoSector]; simp [cellsB_len, fullL_len])) rfl ?_
      · have := HR.out.1.over (o := 0) (m := fullL c) (by rw [nought_len, fullL_len]; omega)
        rw [patch_all (by rw [nought_len, fullL_len])] at this
        exact this
      · exact ⟨rfl, Fr.setCells (.inr (Nat.le_refl _)) HR.out.2.2⟩

theorem alloc3 (w : World) (C0 C1 C2 : Array Value) (t0 t1 t2 : TypeId) : ∃ W, W = ((w.alloc (.cells C0 t0)).alloc (.cells C1 t1)).alloc (.cells C2 t2) ∧ Blk W w.heap.size t0 C0 ∧ Blk W (w.heap.size + 1) t1 C1 ∧ Blk W (w.heap.size + 1 + 1) t2 C2 ∧ W.heap.size = w.heap.size + 3 ∧ Fr (fun _ => False) w W := by
  have k : ∀ {W : World} {g : Nat} {t : TypeId} {cs : Array Value} (o : Obj), Blk W g t cs → Blk (W.alloc o) g t cs := fun o h => h.keep (F := fun _ => False) ((Fr.refl _ _).alloc o) (fun q => q)
  have n : ∀ (W : World) (t : TypeId) (C : Array Value) (g : Nat), W.heap.size = g → Blk (W.alloc (.cells C t)) g t C := fun W t C g e => e ▸ Blk.new W t C
  exact ⟨_, rfl, k _ (k _ (n _ _ _ _ rfl)), k _ (n _ _ _ _ (by simp)), n _ _ _ _ (by simp), by simp, (((Fr.refl _ w).alloc _).alloc _).alloc _⟩

/-- The program's: the later one's first half laid over the earlier one. -/
theorem torn_over {x y : List UInt8} (hx : x.length = 128) : patch y 0 (x.take 64) = tornL x y := by
  have h : (x.take 64).length = 64 := by simp [hx]
  simp [patch, tornL, hx]
set_option maxRecDepth 100000 in
theorem torn_any (w : World) {x y : List UInt8} (hx : x.length = 128) (hy : y.length = 128) : Calls Try.prog 41 #[av x, av y] w fun e w' => e = .returned (av (tornL x y)) ∧ Fr (fun _ => False) w w' := by
  go_enter Try.func41, Try.ntmps41
  go_wp2_with (first
    | (refine wpList_zero rfl 31 rfl zeroSector ?_)
    | (refine wpList_put rfl 31 _ rfl _ rfl ?_))
  obtain ⟨W, hW, k0, k1, k2, hsz, hfr⟩ := alloc3 w (cellsB x).toArray (cellsB y).toArray (cellsB (nought 128)).toArray 31 31 31
  rw [← hW]
  have hcp : ∀ ty, (Builtin.copy_ #[73, 73] ty #[.slice (some ⟨w.heap.size + 1, 0, none⟩) 64 128, .slice (some ⟨w.heap.size, 0, none⟩) 64 128]).run Try.prog W.drew = .ok (goInt 64) (W.drew.setCells (w.heap.size + 1) 0 (cellsB (x.take 64))) := fun ty => by
    have hl : (x.take 64).length = 64 := by simp [hx]
    have h := run_copy_cells (P := Try.prog) W.drew 73 73 ty 5 (w.heap.size + 1) 0 64 128 ⟨w.heap.size, 0, none⟩ 64 128 (cellsB (x.take 64)) Try.underlying73 (by kernel_rfl) (by rw [cellsB_len, hl]; rfl)
      (fun j v hv => by rw [Addr.add_mid]; exact (k0.range 0 64) j v (by rw [List.drop_zero]; exact hv)) (fun j hj => ((k1.there (o := 0) (n := 64) (by simp [cellsB_len, hy])) j (by rw [cellsB_len, hl] at hj; exact hj)).1) (fun j hj => ((k1.there (o := 0) (n := 64) (by simp [cellsB_len, hy])) j (by rw [cellsB_len, hl] at hj; exact hj)).2) (cellsB_one _)
    rw [cellsB_len, hl] at h
    exact h
  have HK := Lib.hid (And.intro k0 (And.intro k1 (And.intro k2 (And.intro hsz hfr))))
  clear hW k0 k1 k2 hsz hfr
  go_wp2_with fail
  go_region
  clear hcp
  have hbl : (x.take 64).length = 64 := by simp [hx]
  have t1 := Blk.over (w := W.drew) (o := 0) (m := x.take 64) HK.out.2.1 (by rw [hbl, hy]; omega)
  rw [torn_over hx] at t1
  have fB : Fr (fun k => k = w.heap.size + 1) W.drew (W.drew.setCells (w.heap.size + 1) 0 (cellsB (x.take 64))) := Fr.setCells (F := fun k => k = w.heap.size + 1) (.inl rfl) (Fr.refl _ _)
  have t2 := Blk.keep (w := W.drew) HK.out.2.2.1 fB (by omega)
  have t3 : Fr (fun _ => False) w (W.drew.setCells (w.heap.size + 1) 0 (cellsB (x.take 64))) := Fr.setCells (.inr (Nat.le_succ _)) HK.out.2.2.2.2.drew
  generalize W.drew.setCells (w.heap.size + 1) 0 (cellsB (x.take 64)) = w6 at *
  have hlt : (tornL x y).length = 128 := tornL_len hx hy
  have H6 := Lib.hid (And.intro t1 (And.intro t2 t3))
  clear t1 t2 t3 fB
  generalize hz : tornL x y = z at *
  have HZ := Lib.hid hz
  clear hz
  have HR : Hid (w6.rangeAt (w.heap.size + 1) 0 (cellsB z)) := Lib.hid (sec_range hlt H6.out.1)
  go_wp2_with (first
    | (refine wpList_load_mid rfl 31 _ rfl (w.heap.size + 1) 0 rfl (cellsB z) _ HR.out Try.underlying31 rfl (by rw [infoSector, cellsB_len, hlt]) ?_)
    | (refine wpList_store_mid rfl 31 _ _ rfl (w.heap.size + 1 + 1) 0 (cellsB z).toArray rfl rfl (H6.out.2.1.there (by simp [cellsB_len, nought_len, hlt])) (by rw [infoSector]; simp [cellsB_len, hlt]) (all_oneCell_toArray (cellsB_one _)) ?_))
  refine bodyPost_ret (results_cell_row rfl _ _ (w.heap.size + 1 + 1) 31 (cellsB z).toArray (0, 0) _ rfl ?_ Try.underlying31 rfl (by rw [infoSector]; simp [cellsB_len, hlt])) rfl ?_
  · have := H6.out.2.1.over (o := 0) (m := z) (by rw [nought_len, hlt]; omega)
    rw [patch_all (by rw [nought_len, hlt])] at this
    exact this
  · exact ⟨by rw [HZ.out], Fr.setCells (.inr (by omega)) H6.out.2.2⟩

/-- The document's Torn: its loop, byte by byte. -/
theorem torn_step {x y : List UInt8} (hx : x.length = 128) (hy : y.length = 128) {k : Nat} (h0 : 64 ≤ k) (hk : k < 128) : (patch x 64 ((y.drop 64).take (k - 64))).set k y[k] = patch x 64 ((y.drop 64).take (k + 1 - 64)) := by
  have hml : ((y.drop 64).take (k - 64)).length = k - 64 := by simp; omega
  have e : (y.drop 64).take (k + 1 - 64) = (y.drop 64).take (k - 64) ++ [y[k]] := by
    have h1 : k + 1 - 64 = (k - 64) + 1 := by omega
    rw [h1, List.take_succ_eq_append_getElem (by simp; omega)]
    congr 2
    rw [List.getElem_drop]
    congr 1
    omega
  rw [e, ← patch_one (o := 64) (by rw [hml]; omega), hml]
  congr 1
  omega
theorem torn_end {x y : List UInt8} (hx : x.length = 128) (hy : y.length = 128) : patch x 64 ((y.drop 64).take (128 - 64)) = tornL x y := by
  have h1 : (y.drop 64).take (128 - 64) = y.drop 64 := List.take_of_length_le (by simp [hy])
  rw [h1]
  unfold patch tornL
  have h2 : x.drop (64 + (y.drop 64).length) = [] := List.drop_eq_nil_of_le (by simp [hx, hy])
  rw [h2, List.append_nil]

set_option maxRecDepth 100000 in
theorem rtorn_any (w : World) {x y : List UInt8} (hx : x.length = 128) (hy : y.length = 128) : Calls Try.prog 14 #[av x, av y] w fun e w' => e = .returned (av (tornL x y)) ∧ Fr (fun _ => False) w w' := by
  obtain ⟨z, hz⟩ : ∃ z, z = tornL x y := ⟨_, rfl⟩
  have HZ := Lib.hid (And.intro hz (hz ▸ tornL_len hx hy : z.length = 128))
  rw [← hz]
  clear hz
  obtain ⟨o1, ho1⟩ : ∃ o, o = Obj.cells (cellsB x).toArray 31 (0, 0) := ⟨_, rfl⟩
  obtain ⟨o2, ho2⟩ : ∃ o, o = Obj.cells (cellsB y).toArray 31 (0, 0) := ⟨_, rfl⟩
  obtain ⟨o3, ho3⟩ : ∃ o, o = Obj.cells (cellsB (nought 128)).toArray 31 (0, 0) := ⟨_, rfl⟩
  have hb0 := ((Blk.new w 31 (cellsB x).toArray).keep (F := fun _ => False) (((Fr.refl _ _).alloc o2).alloc o3) (fun h => h))
  have hb1 := ((Blk.new (w.alloc o1) 31 (cellsB y).toArray).keep (F := fun _ => False) ((Fr.refl _ _).alloc o3) (fun h => h))
  have hb2 := Blk.new ((w.alloc o1).alloc o2) 31 (cellsB (nought 128)).toArray
  have hf0 := (((Fr.refl (fun _ => False) w).alloc o1).alloc o2).alloc o3
  rw [ho1, ho2, ho3] at hf0
  rw [ho2, ho3] at hb0
  rw [ho1, ho3] at hb1
  rw [ho1, ho2] at hb2
  have hs1 : (w.alloc (.cells (cellsB x).toArray 31)).heap.size = w.heap.size + 1 := by simp
  have hs2 : ((w.alloc (.cells (cellsB x).toArray 31)).alloc (.cells (cellsB y).toArray 31)).heap.size = w.heap.size + 1 + 1 := by simp
  rw [hs1] at hb1
  rw [hs2] at hb2
  have HB := Lib.hid (And.intro hb0 (And.intro hb1 (And.intro hb2 hf0)))
  clear hb0 hb1 hb2 hf0 ho1 ho2 ho3 hs1 hs2 o1 o2 o3
  go_enter Try.func14, Try.ntmps14
  go_wp2_with (first
    | (refine wpList_zero rfl 31 rfl zeroSector ?_)
    | (refine wpList_put rfl 31 _ rfl _ rfl ?_))
  generalize ((w.alloc (.cells (cellsB x).toArray 31)).alloc (.cells (cellsB y).toArray 31)).alloc (.cells (cellsB (nought 128)).toArray 31) = w1 at *
  go_loopw [5] (fun i wr => ∃ k : Nat, i = .int .i64 k ∧ 64 ≤ k ∧ k ≤ 128 ∧ Hid (Blk wr w.heap.size 31 (cellsB (patch x 64 ((y.drop 64).take (k - 64)))).toArray ∧ Blk wr (w.heap.size + 1) 31 (cellsB y).toArray ∧ Blk wr (w.heap.size + 1 + 1) 31 (cellsB (nought 128)).toArray ∧ Fr (fun _ => False) w wr)) (fun i _ => 128 - (intOf i).toNat)
  case atStart => exact ⟨64, rfl, by omega, by omega, Lib.hid (by simpa [patch] using HB.out)⟩
  case round =>
    obtain ⟨k, rfl, h0, hk, HR⟩ := hrel
    clear HB
    by_cases hlt : k < 128
    · have hml : ((y.drop 64).take (k - 64)).length = k - 64 := by simp; omega
      have hpl : (patch x 64 ((y.drop 64).take (k - 64))).length = 128 := by rw [patch_len (by rw [hml]; omega), hx]
      have hcb : ∃ v, wr.cell? ⟨w.heap.size, k, none⟩ = some v := by
        rw [HR.out.1.cell]
        exact ⟨_, Array.getElem?_eq_getElem (by simp [cellsB_len, hpl]; omega)⟩
      obtain ⟨vb, hvb⟩ := hcb
      have hfb := HR.out.1.frozen k
      have hcy : wr.cell? ⟨w.heap.size + 1, k, none⟩ = some (.int .u8 (y[k].toNat : Int)) := by
        rw [HR.out.2.1.cell]
        simp [cellsB, hy, hlt]
      have hi0 : (0 : Int) ≤ (k : Int) := by omega
      have hi1 : (k : Int) < 128 := by omega
      obtain ⟨q, hq⟩ : ∃ q, q = y[k] := ⟨_, rfl⟩
      rw [← hq] at hcy
      clear hpl hml
      go_wp2_with fail
      have h1 := HR.out.1.set_ k (.int .u8 (q.toNat : Int))
      have h2 : Blk (wr.setCell ⟨w.heap.size, k, none⟩ (.int .u8 (q.toNat : Int))) w.heap.size 31 (cellsB (patch x 64 ((y.drop 64).take (k + 1 - 64)))).toArray := by
        rw [← torn_step hx hy h0 hlt, ← hq]
        simpa [cellsB, List.map_set] using h1
      subst hq
      have hg : Fr (fun i => i = w.heap.size) wr (wr.setCell ⟨w.heap.size, k, none⟩ (.int .u8 (y[k].toNat : Int))) := (Fr.refl (fun i => i = w.heap.size) wr).setCell (p := ⟨w.heap.size, k, none⟩) (.inl rfl) _
      exact ⟨⟨k + 1, by go_num, by omega, hlt, Lib.hid ⟨h2, HR.out.2.1.keep hg (by omega), HR.out.2.2.1.keep hg (by omega), HR.out.2.2.2.setCell (p := ⟨w.heap.size, k, none⟩) (.inr (by simp)) _⟩⟩, by simp [intOf]; omega⟩
    · have hk8 : k = 128 := by omega
      have hni : ¬ ((k : Int) < 128) := by omega
      have hp : patch x 64 ((y.drop 64).take (k - 64)) = tornL x y := by rw [hk8]; exact torn_end hx hy
      rw [hp] at HR
      rw [← HZ.out.1] at HR
      clear hp hk8
      have hrg := sec_range HZ.out.2 HR.out.1
      go_wp2_with (first
        | (refine wpList_load_mid rfl 31 _ rfl w.heap.size 0 rfl (cellsB z) _ hrg Try.underlying31 rfl (by rw [infoSector, cellsB_len, HZ.out.2]) ?_)
        | (refine wpList_store_mid rfl 31 _ _ rfl (w.heap.size + 1 + 1) 0 (cellsB z).toArray rfl rfl (HR.out.2.2.1.there (by simp [cellsB_len, nought_len, HZ.out.2])) (by rw [infoSector]; simp [cellsB_len, HZ.out.2]) (all_oneCell_toArray (cellsB_one _)) ?_))
      refine bodyPost_ret (results_cell_row rfl _ _ (w.heap.size + 1 + 1) 31 (cellsB z).toArray (0, 0) _ rfl ?_ Try.underlying31 rfl (by rw [infoSector]; simp [cellsB_len, HZ.out.2])) rfl ?_
      · have := HR.out.2.2.1.over (o := 0) (m := z) (by rw [nought_len, HZ.out.2]; omega)
        rw [patch_all (by rw [nought_len, HZ.out.2])] at this
        exact this
      · exact ⟨rfl, Fr.setCells (.inr (by omega)) HR.out.2.2.2⟩
end Go.Proofs.Ytiobmejnamdneaa
