/- W5: laid together out of Dar Tor Dme Stp Drg Lft. -/
import Derived.Test.YtcnlgbjkjlbmbaaGreatRows
import Derived.Deep.MidRow
import Derived.BigQuiet
import Derived.Deep.QuietTactic
import Derived.OrdersIn
import Derived.OrdersHeld
import Derived.Deep.RegionHeld3
import Derived.Deep.DeepCutAuto
import Derived.Test.YtcnlgbjkjlbmbaaGreatW4
namespace Go.Proofs.YtcnlgbjkjlbmbaaGreat
open Go.RowKit

/-! Walking over whole arrays. -/

end Go.Proofs.YtcnlgbjkjlbmbaaGreat

namespace Go.Proofs.YtcnlgbjkjlbmbaaGreat
open Go.RowKit

def tornL (x y : List UInt8) : List UInt8 := x.take 64 ++ y.drop 64
set_option maxRecDepth 100000 in
theorem tornL_len {x y : List UInt8} (hx : x.length = 128) (hy : y.length = 128) : (tornL x y).length = 128 := by simp [tornL, hx, hy]

set_option maxRecDepth 100000 in
theorem patch_one {l m : List UInt8} {o : Nat} {q : UInt8} (h : o + m.length < l.length) : (patch l o m).set (o + m.length) q = patch l o (m ++ [q]) := by
 unfold patch
 have h1 : (l.take o).length = o := by rw [List.length_take]; omega
 rw [List.set_append_right _ _ (by omega), h1, List.set_append_right _ _ (by omega)]
 have h2 : o + m.length - o - m.length = 0 := by omega
 rw [h2]
 have h3 : l.drop (o + m.length) = l[o + m.length] :: l.drop (o + m.length + 1) := List.drop_eq_getElem_cons h
 rw [h3]
 simp [Nat.add_assoc]
set_option maxRecDepth 100000 in
theorem Blk.one {w : World} {B : Nat} {t : TypeId} {l m : List UInt8} {o : Nat} (h : Blk w B t (cellsB (patch l o m)).toArray) (hm : o + m.length < l.length) (q : UInt8) :
 Blk (w.setCell ⟨B, o + m.length, none⟩ (.int .u8 (q.toNat : Int))) B t (cellsB (patch l o (m ++ [q]))).toArray := by
 have h6 := h.set_ (o + m.length) (.int .u8 (q.toNat : Int))
 rw [← patch_one hm]
 simpa [cellsB, List.map_set] using h6
set_option maxRecDepth 100000 in
theorem sec_range {w : World} {b : Nat} {l : List UInt8} (hl : l.length = 128) (h : Blk w b 83 (cellsB l).toArray) : w.rangeAt b 0 (cellsB l) := by
 have := h.range 0 128
 rwa [List.drop_zero, List.take_of_length_le (by omega)] at this

set_option maxRecDepth 100000 in
theorem torn_over {x y : List UInt8} (hx : x.length = 128) : patch y 0 (x.take 64) = tornL x y := by
 have h : (x.take 64).length = 64 := by simp [hx]
 simp [patch, tornL, hx]
set_option maxRecDepth 100000 in
theorem dtorn_any (w : World) {x y : List UInt8} (hx : x.length = 128) (hy : y.length = 128) : Calls Tryz.prog 68 #[av x, av y] w fun e w' => e = .returned (av (tornL x y)) ∧ Fr (fun _ => False) w w' := by
 go_enter Tryz.func68, Tryz.ntmps68
 go_wp2_with (first
  | (refine wpList_zero rfl 83 rfl zeroSector ?_)
  | (refine wpList_put rfl 83 _ rfl _ rfl ?_))
 obtain ⟨W, hW, k0, k1, k2, hsz, hfr⟩ := alloc3 w (cellsB x).toArray (cellsB y).toArray (cellsB (nought 128)).toArray 83 83 83
 rw [← hW]
 have hcp : ∀ ty, (Builtin.copy_ #[46, 46] ty #[.slice (some ⟨w.heap.size + 1, 0, none⟩) 64 128, .slice (some ⟨w.heap.size, 0, none⟩) 64 128]).run Tryz.prog W.drew = .ok (goInt 64) (W.drew.setCells (w.heap.size + 1) 0 (cellsB (x.take 64))) := fun ty => by
  have hl : (x.take 64).length = 64 := by simp [hx]
  have h := run_copy_cells (P := Tryz.prog) W.drew 46 46 ty 5 (w.heap.size + 1) 0 64 128 ⟨w.heap.size, 0, none⟩ 64 128 (cellsB (x.take 64)) Tryz.underlying46 (by kernel_rfl) (by rw [cellsB_len, hl]; rfl)
   (fun j v hv => by rw [Addr.add_mid]; exact (k0.range 0 64) j v (by rw [List.drop_zero]; exact hv)) (fun j hj => ((k1.there (o := 0) (n := 64) (by simp [cellsB_len, hy])) j (by rw [cellsB_len, hl] at hj; exact hj)).1) (fun j hj => ((k1.there (o := 0) (n := 64) (by simp [cellsB_len, hy])) j (by rw [cellsB_len, hl] at hj; exact hj)).2) (cellsB_one _)
  rw [cellsB_len, hl] at h
  exact h
 have HK := Lib.hid (And.intro k0 (And.intro k1 (And.intro k2 (And.intro hsz hfr))))
 clear hW k0 k1 k2 hsz hfr
 go_wp2_with fail
 go_region
 clear hcp
 have hbl : (x.take 64).length = 64 := by simp [hx]
 have t1 := Blk.over (w := W.drew) (o := 0) (m := x.take 64) HK.out.2.1 (by rw [hbl, hy]; omega)
 rw [torn_over hx] at t1
 have fB : Fr (fun k => k = w.heap.size + 1) W.drew (W.drew.setCells (w.heap.size + 1) 0 (cellsB (x.take 64))) := Fr.setCells (F := fun k => k = w.heap.size + 1) (.inl rfl) (Fr.refl _ _)
 have t2 := Blk.keep (w := W.drew) HK.out.2.2.1 fB (by omega)
 have t3 : Fr (fun _ => False) w (W.drew.setCells (w.heap.size + 1) 0 (cellsB (x.take 64))) := Fr.setCells (.inr (Nat.le_succ _)) HK.out.2.2.2.2.drew
 generalize W.drew.setCells (w.heap.size + 1) 0 (cellsB (x.take 64)) = w6 at *
 have hlt : (tornL x y).length = 128 := tornL_len hx hy
 have H6 := Lib.hid (And.intro t1 (And.intro t2 t3))
 clear t1 t2 t3 fB
 generalize hz : tornL x y = z at *
 have HZ := Lib.hid hz
 clear hz
 have HR : Hid (w6.rangeAt (w.heap.size + 1) 0 (cellsB z)) := Lib.hid (sec_range hlt H6.out.1)
 go_wp2_with (first
  | (refine wpList_load_mid rfl 83 _ rfl (w.heap.size + 1) 0 rfl (cellsB z) _ HR.out Tryz.underlying83 rfl (by rw [infoSector, cellsB_len, hlt]) ?_)
  | (refine wpList_store_mid rfl 83 _ _ rfl (w.heap.size + 1 + 1) 0 (cellsB z).toArray rfl rfl (H6.out.2.1.there (by simp [cellsB_len, nought_len, hlt])) (by rw [infoSector]; simp [cellsB_len, hlt]) (all_oneCell_toArray (cellsB_one _)) ?_))
 refine bodyPost_ret (results_cell_row rfl _ _ (w.heap.size + 1 + 1) 83 (cellsB z).toArray (0, 0) _ rfl ?_ Tryz.underlying83 rfl (by rw [infoSector]; simp [cellsB_len, hlt])) rfl ?_
 · have := H6.out.2.1.over (o := 0) (m := z) (by rw [nought_len, hlt]; omega)
   rw [patch_all (by rw [nought_len, hlt])] at this
   exact this
 · exact ⟨by rw [HZ.out], Fr.setCells (.inr (by omega)) H6.out.2.2⟩

end Go.Proofs.YtcnlgbjkjlbmbaaGreat

namespace Go.Proofs.YtcnlgbjkjlbmbaaGreat
open Go.RowKit

abbrev dskC (A : Option Addr) (n c : Nat) (m : Value) (f : Bool) (l : Int) (dd : Bool) : Array Value := #[.slice A n c, m, .bool f, .int .i64 l, .bool dd]

section
variable {w : World} {g n c : Nat} {A : Option Addr} {m : Value} {f dd : Bool} {l : Int}

set_option maxRecDepth 100000 in
theorem dsk_cells (h : Blk w g 74 (dskC A n c m f l dd)) : w.cell? ⟨g, 0, none⟩ = some (.slice A n c) ∧ w.cell? ⟨g, 1, none⟩ = some m ∧ w.cell? ⟨g, 2, none⟩ = some (.bool f) ∧ w.cell? ⟨g, 3, none⟩ = some (.int .i64 l) ∧ w.cell? ⟨g, 4, none⟩ = some (.bool dd) :=
 ⟨(h.cell 0).trans rfl, (h.cell 1).trans rfl, (h.cell 2).trans rfl, (h.cell 3).trans rfl, (h.cell 4).trans rfl⟩

set_option maxRecDepth 100000 in
theorem none_nil (w : World) : Calls Tryz.prog 33 #[.pointer none] w fun e w' => e = .returned (.bool true) ∧ w = w' := by
 go_enter Tryz.func33, Tryz.ntmps33
 go_wp2_with fail
 go_ret
 exact ⟨rfl, rfl⟩
set_option maxRecDepth 100000 in
theorem none_any (h : Blk w g 74 (dskC A n c m f l dd)) : Calls Tryz.prog 33 #[.pointer (some ⟨g, 0, none⟩)] w fun e w' => e = .returned (.bool (decide (n = 0))) ∧ w = w' := by
 obtain ⟨c0, c1, c2, c3, c4⟩ := dsk_cells h
 obtain ⟨b, hb⟩ : ∃ b, b = decide (n = 0) := ⟨_, rfl⟩
 have hb2 : ((n : Int) == 0) = b := by rw [hb, Bool.eq_iff_iff]; simp; 
 rw [← hb]
 clear hb
 go_enter Tryz.func33, Tryz.ntmps33
 go_wp2_with fail
 go_ret
 exact ⟨rfl, rfl⟩

set_option maxRecDepth 100000 in
theorem sectors_nil (w : World) : Calls Tryz.prog 60 #[.pointer none] w fun e w' => e = .returned (.int .i64 0) ∧ w = w' := by
 go_enter Tryz.func60, Tryz.ntmps60
 go_wp2_with (go_at_call 33; refine (none_nil _).mono ?_; rintro e w' ⟨rfl, rfl⟩)
 go_ret
 exact ⟨rfl, rfl⟩
set_option maxRecDepth 100000 in
theorem sectors_any (h : Blk w g 74 (dskC A n c m f l dd)) : Calls Tryz.prog 60 #[.pointer (some ⟨g, 0, none⟩)] w fun e w' => e = .returned (.int .i64 n) ∧ w = w' := by
 obtain ⟨c0, c1, c2, c3, c4⟩ := dsk_cells h
 rcases Nat.eq_zero_or_pos n with rfl | hn
 · go_enter Tryz.func60, Tryz.ntmps60
   go_wp2_with (go_at_call 33; refine (none_any h).mono ?_; rintro e w' ⟨rfl, rfl⟩)
   go_ret
   exact ⟨rfl, rfl⟩
 · have hd : decide (n = 0) = false := by simp; omega
   have hN := none_any h
   rw [hd] at hN
   go_enter Tryz.func60, Tryz.ntmps60
   go_wp2_with (go_at_call 33; refine hN.mono ?_; rintro e w' ⟨rfl, rfl⟩)
   go_ret
   exact ⟨rfl, rfl⟩

set_option maxRecDepth 100000 in
theorem dead_any (h : Blk w g 74 (dskC A n c m f l dd)) : Calls Tryz.prog 34 #[.pointer (some ⟨g, 0, none⟩)] w fun e w' => e = .returned (.bool (!decide (n = 0) && dd)) ∧ w = w' := by
 obtain ⟨c0, c1, c2, c3, c4⟩ := dsk_cells h
 have hN := none_any h
 cases hd : decide (n = 0)
 all_goals
  rw [hd] at hN
  go_enter Tryz.func34, Tryz.ntmps34
  go_wp2_with (go_at_call 33; refine hN.mono ?_; rintro e w' ⟨rfl, rfl⟩)
  go_ret
  exact ⟨by simp, rfl⟩

def hasE (n : Nat) (i : Int) : Int := if n = 0 then 1 else if i < 0 ∨ (n : Int) ≤ i then 2 else 0
set_option maxRecDepth 100000 in
theorem has_any (h : Blk w g 74 (dskC A n c m f l dd)) (i : Int) : Calls Tryz.prog 114 #[.pointer (some ⟨g, 0, none⟩), .int .i64 i] w fun e w' => e = .returned (.int .i64 (hasE n i)) ∧ w = w' := by
 obtain ⟨c0, c1, c2, c3, c4⟩ := dsk_cells h
 have hN := none_any h
 obtain ⟨r, hr⟩ : ∃ r, r = hasE n i := ⟨_, rfl⟩
 rw [← hr]
 unfold hasE at hr
 rcases Nat.eq_zero_or_pos n with rfl | hn
 · have h1 : r = 1 := by rw [hr]; simp
   subst h1
   clear hr
   go_enter Tryz.func114, Tryz.ntmps114
   go_wp2_with (go_at_call 33; refine hN.mono ?_; rintro e w' ⟨rfl, rfl⟩)
   go_ret
   exact ⟨rfl, rfl⟩
 · have hd : decide (n = 0) = false := by simp; omega
   rw [hd] at hN
   rw [if_neg (by omega)] at hr
   by_cases h0 : i < 0
   · have h1 : r = 2 := by rw [hr, if_pos (.inl h0)]
     subst h1
     clear hr hd
     go_enter Tryz.func114, Tryz.ntmps114
     go_wp2_with (go_at_call 33; refine hN.mono ?_; rintro e w' ⟨rfl, rfl⟩)
     go_ret
     exact ⟨rfl, rfl⟩
   · by_cases h2 : (n : Int) ≤ i
     · have h1 : r = 2 := by rw [hr, if_pos (.inr h2)]
       subst h1
       clear hr hd
       go_enter Tryz.func114, Tryz.ntmps114
       go_wp2_with (go_at_call 33; refine hN.mono ?_; rintro e w' ⟨rfl, rfl⟩)
       go_ret
       exact ⟨rfl, rfl⟩
     · have h1 : r = 0 := by rw [hr, if_neg (by omega)]
       subst h1
       clear hr hd
       go_enter Tryz.func114, Tryz.ntmps114
       go_wp2_with (go_at_call 33; refine hN.mono ?_; rintro e w' ⟨rfl, rfl⟩)
       go_ret
       exact ⟨rfl, rfl⟩
end
end Go.Proofs.YtcnlgbjkjlbmbaaGreat

namespace Go.Proofs.YtcnlgbjkjlbmbaaGreat
open Go.RowKit

section
variable {w : World} {g n c : Nat} {A : Option Addr} {m : Value} {f dd : Bool} {l : Int}

def deadS (f : Bool) (l : Int) (dd : Bool) : Bool := dd || (f && l == 0)
def leftS (f : Bool) (l : Int) (dd : Bool) : Int := if f && !deadS f l dd then l - 1 else l
set_option maxRecDepth 100000 in
theorem step_any (h : Blk w g 74 (dskC A n c m f l dd)) (h0 : 0 ≤ l) (h1 : l ≤ 9223372036854775807) : Calls Tryz.prog 115 #[.pointer (some ⟨g, 0, none⟩)] w fun e w' =>
 e = .returned (.int .i64 (if deadS f l dd then 10 else 0)) ∧ Blk w' g 74 (dskC A n c m f (leftS f l dd) (deadS f l dd)) ∧ Fr (fun i => i = g) w w' := by
 obtain ⟨c0, c1, c2, c3, c4⟩ := dsk_cells h
 have f3 := h.frozen 3
 have f4 := h.frozen 4
 cases f with
 | false =>
   cases dd with
   | true =>
     have hd : deadS false l true = true := by simp [deadS]
     have hl2 : leftS false l true = l := by simp [leftS]
     rw [hd, hl2]
     simp only [↓reduceIte]
     go_enter Tryz.func115, Tryz.ntmps115
     go_wp2_with fail
     go_ret
     exact ⟨rfl, h, Fr.refl _ _⟩
   | false =>
     have hd : deadS false l false = false := by simp [deadS]
     have hl2 : leftS false l false = l := by simp [leftS]
     rw [hd, hl2]
     simp only [Bool.false_eq_true, ↓reduceIte]
     go_enter Tryz.func115, Tryz.ntmps115
     go_wp2_with fail
     go_ret
     exact ⟨rfl, h, Fr.refl _ _⟩
 | true =>
   by_cases hl : l = 0
   · subst hl
     have hd : deadS true 0 dd = true := by simp [deadS]
     have hl2 : leftS true 0 dd = 0 := by simp [leftS, hd]
     rw [hd, hl2]
     simp only [↓reduceIte]
     have hs := h.set_ 4 (.bool true)
     have hk : (w.setCell ⟨g, 4, none⟩ (.bool true)).cell? ⟨g, 4, none⟩ = some (.bool true) := hs.cell 4
     go_enter Tryz.func115, Tryz.ntmps115
     go_wp2_with fail
     go_ret
     exact ⟨rfl, hs, (Fr.refl (fun i => i = g) w).setCell (p := ⟨g, 4, none⟩) (.inl rfl) _⟩
   · have hb : (l == 0) = false := by simp [hl]
     cases dd with
     | true =>
       have hd : deadS true l true = true := by simp [deadS]
       have hl2 : leftS true l true = l := by simp [leftS, hd]
       rw [hd, hl2]
       simp only [↓reduceIte]
       go_enter Tryz.func115, Tryz.ntmps115
       go_wp2_with fail
       go_ret
       exact ⟨rfl, h, Fr.refl _ _⟩
     | false =>
       have hd : deadS true l false = false := by simp [deadS, hb]
       have hl2 : leftS true l false = l - 1 := by simp [leftS, hd]
       rw [hd, hl2]
       simp only [Bool.false_eq_true, ↓reduceIte]
       have hs := h.set_ 3 (.int .i64 (l - 1))
       have hw : IntKind.i64.wrap (l - 1) = l - 1 := by
        simp [IntKind.wrap, IntKind.signed, IntKind.bits]
        omega
       go_enter Tryz.func115, Tryz.ntmps115
       go_wp2_with fail
       go_ret
       exact ⟨rfl, hs, (Fr.refl (fun i => i = g) w).setCell (p := ⟨g, 3, none⟩) (.inl rfl) _⟩

set_option maxRecDepth 100000 in
theorem fuse_neg (h : Blk w g 74 (dskC A n c m f l dd)) (hn : 0 < n) (k : Int) (hk : k < 0) : Calls Tryz.prog 11 #[.pointer (some ⟨g, 0, none⟩), .int .i64 k] w fun e w' => e = .returned (.int .i64 2) ∧ w = w' := by
 have hN := none_any h
 rw [decide_eq_false (by omega)] at hN
 go_enter Tryz.func11, Tryz.ntmps11
 go_wp2_with (go_at_call 33; refine hN.mono ?_; rintro e w' ⟨rfl, rfl⟩)
 go_ret
 exact ⟨rfl, rfl⟩
set_option maxRecDepth 100000 in
theorem fuse_any (h : Blk w g 74 (dskC A n c m f l dd)) (hn : 0 < n) (k : Int) (hk : ¬ k < 0) : Calls Tryz.prog 11 #[.pointer (some ⟨g, 0, none⟩), .int .i64 k] w fun e w' =>
 e = .returned (.int .i64 0) ∧ Blk w' g 74 (dskC A n c m true k dd) ∧ Fr (fun i => i = g) w w' := by
 have hN := none_any h
 rw [decide_eq_false (by omega)] at hN
 have h2 := h.set_ 2 (.bool true)
 have h3 := h2.set_ 3 (.int .i64 k)
 obtain ⟨c0, c1, c2, c3, c4⟩ := dsk_cells h
 have f2 := h.frozen 2
 have f3 := h.frozen 3
 have k3 : (w.setCell ⟨g, 2, none⟩ (.bool true)).cell? ⟨g, 3, none⟩ = some (.int .i64 l) := h2.cell 3
 have q3 := h2.frozen 3
 have HS := Lib.hid h3
 clear h2 h3
 go_enter Tryz.func11, Tryz.ntmps11
 go_wp2_with (go_at_call 33; refine hN.mono ?_; rintro e w' ⟨rfl, rfl⟩)
 go_ret
 exact ⟨rfl, HS.out, ((Fr.refl (fun i => i = g) _).setCell (p := ⟨g, 2, none⟩) (.inl rfl) _).setCell (p := ⟨g, 3, none⟩) (.inl rfl) _⟩

set_option maxRecDepth 100000 in
theorem results_read {tmps : Array Value} {w : World} {b : Nat} {cs : List Value} {v : Value} (h4 : tmps.getD 4 undef = .pointer (some ⟨b, 0, none⟩)) (h5 : tmps.getD 5 undef = v) (hl : cs.length = 128)
 (hb : Blk w b 83 cs.toArray) : (results Tryz.f116 tmps).run Tryz.prog w = .ok (.tuple #[.agg cs.toArray, v]) w := by
 have e := run_loadVar_row (P := Tryz.prog) w b 83 83 cs.toArray (0, 0) _ hb Tryz.underlying83 rfl (by rw [infoSector]; simp [hl])
 have h4' : tmps[4]?.getD undef = .pointer (some ⟨b, 0, none⟩) := by simpa using h4
 have h5' : tmps[5]?.getD undef = v := by simpa using h5
 simp [results, Tryz.f116, h4', h5', asAddr, e]

set_option maxRecDepth 100000 in
theorem read_any {R k : Nat} {s : List UInt8} (h : Blk w g 74 (dskC (some ⟨R, 0, none⟩) n c m f l dd)) (hs : s.length = 128) (hr : w.rangeAt R (k * 128) (cellsB s)) (hk : k < n) :
 Calls Tryz.prog 116 #[.pointer (some ⟨g, 0, none⟩), .int .i64 k] w fun e w' => e = .returned (.tuple #[av s, .int .i64 0]) ∧ Fr (fun _ => False) w w' := by
 have hf := (Fr.refl (fun _ => False) w).alloc (.cells (cellsB (nought 128)).toArray 83)
 have h' := h.keep hf (fun q => q)
 have hr' : Hid ((w.alloc (.cells (cellsB (nought 128)).toArray 83)).rangeAt R (k * 128) (cellsB s)) := Lib.hid fun j v hv => (hf.cell (World.block_lt_of_cell? w _ (hr j v hv)) (fun q => q)).trans (hr j v hv)
 have HB := Lib.hid (And.intro (Blk.new w 83 (cellsB (nought 128)).toArray) (And.intro hf hs))
 have HH := has_any h' (k : Int)
 have he : hasE n (k : Int) = 0 := by unfold hasE; rw [if_neg (by omega), if_neg (by omega)]
 rw [he] at HH
 obtain ⟨c0, c1, c2, c3, c4⟩ := dsk_cells h'
 have hi0 : (0 : Int) ≤ (k : Int) := by omega
 have hi1 : (k : Int) < (n : Int) := by omega
 clear hf h' hr he h hs
 go_enter Tryz.func116, Tryz.ntmps116
 go_wp2_with (first
  | (refine wpList_zero rfl 83 rfl zeroSector ?_)
  | (go_at_call 114; refine HH.mono ?_; rintro e w' ⟨rfl, rfl⟩)
  | (refine wpList_load_mid rfl 83 _ rfl R (k * 128) rfl (cellsB s) _ hr'.out Tryz.underlying83 rfl (by rw [infoSector, cellsB_len, HB.out.2.2]) ?_)
  | (refine wpList_store_mid rfl 83 _ _ rfl w.heap.size 0 (cellsB s).toArray rfl rfl (HB.out.1.there (by simp [cellsB_len, nought_len, HB.out.2.2])) (by rw [infoSector]; simp [cellsB_len, HB.out.2.2]) (all_oneCell_toArray (cellsB_one _)) ?_))
 have hb := HB.out.1.over (o := 0) (m := s) (by rw [nought_len, HB.out.2.2]; omega)
 rw [patch_all (by rw [nought_len, HB.out.2.2])] at hb
 refine bodyPost_ret (results_read rfl rfl (by rw [cellsB_len, HB.out.2.2]) hb) rfl ⟨rfl, Fr.setCells (.inr (Nat.le_refl _)) HB.out.2.1⟩
end
end Go.Proofs.YtcnlgbjkjlbmbaaGreat

namespace Go.Proofs.YtcnlgbjkjlbmbaaGreat
open Go.RowKit

section
variable {P : Program} {ops : Array Oper} {Q : Exit → Act → World → Prop} {md : Region.Mode} {S : World → Prop}

def Tame (P : Program) (ops : Array Oper) (Q : Exit → Act → World → Prop) (S : World → Prop) (i : Nat) (d : Tmp) (v : Value) (T : Array Value) (ds : List Deferred) : Prop :=
 ∀ w, S w → ∀ K : Act → World → Prop, (∀ w', S w' → K { tmps := T.setIfInBounds d v, defers := ds } w') → wpOp P ops Q i K { tmps := T, defers := ds } w
set_option maxRecDepth 100000 in
theorem tame_call {i : Nat} {o : Oper} {T : Array Value} {ds : List Deferred} {f : FuncId} {args : Array Value} {v : Value} (d : Tmp) (ho : ops[i]? = some o) (hd : o.dst = some d) (hw : Region.wanted o (yielded ops T) = true)
 (hr : ∀ w, S w → (execOp (Act.eval { tmps := T, defers := ds }) o).run P w = .ok (.enter f args) w) (h : ∀ w, S w → Calls P f args w fun e w' => e = .returned v ∧ S w') : Tame P ops Q S i d v T ds := fun w hS K hK =>
 wpOp_call d ho hd hw (hr w hS) ((h w hS).mono fun e w' he => ⟨v, he.1, hK w' he.2⟩)
set_option maxRecDepth 100000 in
theorem anyH_one (i : Nat) (d : Tmp) (v : Value) {fuel : Nat} {listed : Array Bool} {T : Array Value} {ds : List Deferred} {w : World} (hr : Region.ready md ops listed = [i])
 (ht : Tame P ops Q S i d v T ds) (hS : S w) (h : ∀ w', S w' → wpAnyH P md ops Q S fuel (listed.setIfInBounds i true) { tmps := T.setIfInBounds d v, defers := ds } w') : wpAnyH P md ops Q S (fuel + 1) listed { tmps := T, defers := ds } w := by
 refine wpAnyH_all hr (by simp) fun j hj => ?_
 obtain rfl := List.mem_singleton.1 hj
 exact ht w hS _ fun w' hS' => ⟨hS', h w' hS'⟩
end
section
variable {P : Program} {ops : Array Oper} {Q : Exit → Act → World → Prop} {md : Region.Mode} {S : World → Prop}
set_option maxRecDepth 100000 in
theorem anyH_value (i : Nat) (d : Tmp) (v : Value) (w' : World) {o : Oper} {fuel : Nat} {listed : Array Bool} {T : Array Value} {ds : List Deferred} {w : World} (hr : Region.ready md ops listed = [i]) (ho : ops[i]? = some o) (hd : o.dst = some d)
 (hw : Region.wanted o (yielded ops T) = true) (hrun : (execOp (Act.eval { tmps := T, defers := ds }) o).run P w = .ok (.value v) w') (hS : S w')
 (h : wpAnyH P md ops Q S fuel (listed.setIfInBounds i true) { tmps := T.setIfInBounds d v, defers := ds } w') : wpAnyH P md ops Q S (fuel + 1) listed { tmps := T, defers := ds } w := by
 refine wpAnyH_all hr (by simp) fun j hj => ?_
 obtain rfl := List.mem_singleton.1 hj
 exact wpOp_value d v ho hd hw hrun ⟨hS, h⟩
set_option maxRecDepth 100000 in
theorem anyH_skip (i : Nat) (w' : World) {o : Oper} {fuel : Nat} {listed : Array Bool} {T : Array Value} {ds : List Deferred} {w : World} (hr : Region.ready md ops listed = [i]) (ho : ops[i]? = some o) (hd : o.dst = none)
 (hw : Region.wanted o (yielded ops T) = true) (hrun : (execOp (Act.eval { tmps := T, defers := ds }) o).run P w = .ok .skip w') (hS : S w')
 (h : wpAnyH P md ops Q S fuel (listed.setIfInBounds i true) { tmps := T, defers := ds } w') : wpAnyH P md ops Q S (fuel + 1) listed { tmps := T, defers := ds } w := by
 refine wpAnyH_all hr (by simp) fun j hj => ?_
 obtain rfl := List.mem_singleton.1 hj
 exact wpOp_skip ho hd hw hrun ⟨hS, h⟩
set_option maxRecDepth 100000 in
theorem anyH_enter (i : Nat) (d : Tmp) {o : Oper} {fuel : Nat} {listed : Array Bool} {T : Array Value} {ds : List Deferred} {w : World} {f : FuncId} {args : Array Value} (hr : Region.ready md ops listed = [i]) (ho : ops[i]? = some o) (hd : o.dst = some d)
 (hw : Region.wanted o (yielded ops T) = true) (hrun : (execOp (Act.eval { tmps := T, defers := ds }) o).run P w = .ok (.enter f args) w)
 (h : Calls P f args w fun e w' => ∃ v, e = .returned v ∧ S w' ∧ wpAnyH P md ops Q S fuel (listed.setIfInBounds i true) { tmps := T.setIfInBounds d v, defers := ds } w') : wpAnyH P md ops Q S (fuel + 1) listed { tmps := T, defers := ds } w := by
 refine wpAnyH_all hr (by simp) fun j hj => ?_
 obtain rfl := List.mem_singleton.1 hj
 exact wpOp_call d ho hd hw hrun h
end
set_option maxRecDepth 100000 in
theorem run_load_mid {P : Program} {o : Oper} {a : Act} {w : World} (ty : TypeId) (x : Operand) (ho : o.op = .load ty x) (b f : Nat) (hx : a.eval x = .pointer (some ⟨b, f, none⟩)) (cs : List Value) (d : TypeDesc) (hr : w.rangeAt b f cs) (hu : P.underlying ty = some d) (hd : d.isRow = true) (hi : (P.info? ty).map (·.size) = some cs.length) :
 (execOp a.eval o).run P w = .ok (.value (.agg cs.toArray)) w := by
 unfold execOp
 simp only [ho, hx, Instr.loadAt, Instr.sureAddr, Sem.run_bind, Sem.run_pure, Result.andThen_ok, run_loadVar_mid w b f ty cs d hr hu hd hi]
def SecV (w : World) (v : Value) (ss : List (List UInt8)) : Prop :=
 ∃ A cap, v = .slice A ss.length cap ∧ ss.length ≤ cap ∧ cap ≤ maxLen ∧ (0 < ss.length → ∃ b off, A = some ⟨b, off, none⟩ ∧ SecsAt w b off ss)
set_option maxRecDepth 100000 in
theorem SecV.new {w w' : World} {v : Value} {ss : List (List UInt8)} (h : SecV w v ss) (f : Fr (fun _ => False) w w') : SecV w' v ss := by
 obtain ⟨A, cap, e, h1, h2, h3⟩ := h
 refine ⟨A, cap, e, h1, h2, fun q => ?_⟩
 obtain ⟨b, off, e1, h⟩ := h3 q
 exact ⟨b, off, e1, h.keep f (fun q => q)⟩
set_option maxRecDepth 100000 in
theorem SecsAt.flat {w : World} {b : Nat} : ∀ {ss : List (List UInt8)} {off : Nat}, SecsAt w b off ss → w.rangeAt b off (cellsB ss.flatten)
 | [], off, _ => fun j v hv => by simp [cellsB] at hv
 | s :: ss, off, h => fun j v hv => by
   obtain ⟨hl, hr⟩ := h 0 s rfl
   have ht : SecsAt w b (off + 128) ss := fun i x hi => by
    have := h (i + 1) x hi
    have e : off + (i + 1) * 128 = off + 128 + i * 128 := by omega
    rw [e] at this
    exact this
   have ih := SecsAt.flat ht
   rw [List.flatten_cons, cellsB_app] at hv
   by_cases hj : j < 128
   · rw [List.getElem?_append_left (by rw [cellsB_len, hl]; exact hj)] at hv
     have := hr j v hv
     rw [Nat.zero_mul, Nat.add_zero] at this
     exact this
   · rw [List.getElem?_append_right (by rw [cellsB_len, hl]; omega), cellsB_len, hl] at hv
     have := ih (j - 128) v hv
     have e : off + 128 + (j - 128) = off + j := by omega
     rw [e] at this
     exact this
set_option maxRecDepth 100000 in
theorem SecV.all128 {w : World} {v : Value} {ss : List (List UInt8)} (h : SecV w v ss) : ∀ s ∈ ss, s.length = 128 := fun s hm => by
 obtain ⟨A, ca, _, _, _, h3⟩ := h
 obtain ⟨i, hi⟩ := List.getElem?_of_mem hm
 have hlt : i < ss.length := (List.getElem?_eq_some_iff.1 hi).1
 obtain ⟨b, off, _, hs⟩ := h3 (by omega)
 exact (hs i s hi).1
end Go.Proofs.YtcnlgbjkjlbmbaaGreat

namespace Go.Proofs.YtcnlgbjkjlbmbaaGreat
open Go.RowKit

def pickN (m : Nat) (pick : Int) : Nat := (pick % ((2 * m - 1 : Nat) : Int)).toNat
def leftL (vs : List (List UInt8)) (p : Nat) : List UInt8 := if 0 < p ∧ p % 2 = 0 then tornL (vs.getD ((p + 1) / 2) []) (vs.getD ((p + 1) / 2 - 1) []) else vs.getD ((p + 1) / 2) []

set_option maxRecDepth 100000 in
theorem pick_neg {q : Nat} {pick : Int} (hq : 0 < q) (h : pick.tmod (q : Int) < 0) : pick.tmod (q : Int) + (q : Int) = pick % (q : Int) := by
 have h1 := Int.emod_nonneg pick (b := (q : Int)) (by omega)
 have h2 := Int.emod_lt_of_pos pick (b := (q : Int)) (by omega)
 have h3 := Int.tmod_eq_emod (a := pick) (b := (q : Int))
 have h4 : ((q : Int).natAbs : Int) = q := by omega
 split at h3 <;> omega
set_option maxRecDepth 100000 in
theorem pick_pos {q : Nat} {pick : Int} (hq : 0 < q) (h : ¬ pick.tmod (q : Int) < 0) : pick.tmod (q : Int) = pick % (q : Int) := by
 have h1 := Int.emod_nonneg pick (b := (q : Int)) (by omega)
 have h2 := Int.emod_lt_of_pos pick (b := (q : Int)) (by omega)
 have h3 := Int.tmod_eq_emod (a := pick) (b := (q : Int))
 have h4 : ((q : Int).natAbs : Int) = q := by omega
 split at h3 <;> omega

set_option maxRecDepth 100000 in
set_option maxHeartbeats 4000000 in
theorem left_any {w : World} {v : Value} {vs : List (List UInt8)} (h : SecV w v vs) (h0 : 0 < vs.length) (hN : vs.length ≤ 1000000) (pick : Int) :
 Calls Tryz.prog 41 #[v, .int .i64 pick] w fun e w' => e = .returned (av (leftL vs (pickN vs.length pick))) ∧ Fr (fun _ => False) w w' := by
 obtain ⟨A, ca, rfl, h1, h2, h3⟩ := h
 obtain ⟨b, off, rfl, hs⟩ := h3 h0
 obtain ⟨n, hn⟩ : ∃ n, n = vs.length := ⟨_, rfl⟩
 obtain ⟨q, hq⟩ : ∃ q, q = 2 * n - 1 := ⟨_, rfl⟩
 rw [← hn] at h0 hN h1 ⊢
 have hq2 : (2 * (n : Int) - 1) = (q : Int) := by omega
 have hq0 : 0 < q := by omega
 obtain ⟨p, hp⟩ : ∃ p, p = pickN n pick := ⟨_, rfl⟩
 rw [← hp]
 have hpe : pick % (q : Int) = (p : Int) := by
  rw [hp]
  unfold pickN
  rw [← hq]
  have := Int.emod_nonneg pick (b := (q : Int)) (by omega)
  omega
 have hpl : p < q := by
  have := Int.emod_lt_of_pos pick (b := (q : Int)) (by omega)
  omega
 have HQ := Lib.hid (And.intro hq (And.intro hp hn))
 clear hp hq hn
 have HS := Lib.hid hs
 have HB := Lib.hid (And.intro (Blk.new w 83 (cellsB (nought 128)).toArray) ((Fr.refl (fun _ => False) w).alloc (.cells (cellsB (nought 128)).toArray 83)))
 clear hs h3
 rcases Decidable.em (pick.tmod (q : Int) < 0) with hneg | hneg
 · have hpq := pick_neg hq0 hneg
   rw [hpe] at hpq
   go_enter Tryz.func41, Tryz.ntmps41
   go_upto_region 5 with (refine wpList_zero rfl 83 rfl zeroSector ?_)
   clear hneg hpq
   generalize w.alloc (.cells (cellsB (nought 128)).toArray 83) = w1 at *
   obtain ⟨j, hj⟩ : ∃ j, j = (p + 1) / 2 := ⟨_, rfl⟩
   have hj2 : ((p : Int) + 1) / 2 = (j : Int) := by omega
   have hi0 : (0 : Int) ≤ (j : Int) := by omega
   have hi1 : (j : Int) < (n : Int) := by have := HQ.out.1; omega
   obtain ⟨x, hx⟩ : ∃ x, vs[j]? = some x := ⟨_, List.getElem?_eq_getElem (by have := HQ.out.2.2; omega)⟩
   by_cases hp0 : (0 : Int) < (p : Int)
   · cases hev : ((p : Int) % 2 == 0) with
     | true =>
       obtain ⟨i, hi⟩ : ∃ i, i + 1 = j := ⟨j - 1, by have : (p : Int) % 2 = 0 := (by simpa using hev); omega⟩
       have hi2 : (j : Int) - 1 = (i : Int) := by omega
       have hi3 : (0 : Int) ≤ (i : Int) := by omega
       have hi4 : (i : Int) < (n : Int) := by omega
       have hwi : IntKind.i64.wrap (i : Int) = (i : Int) := by
        simp [IntKind.wrap, IntKind.signed, IntKind.bits]
        omega
       obtain ⟨y, hy⟩ : ∃ y, vs[i]? = some y := ⟨_, List.getElem?_eq_getElem (by have := HQ.out.2.2; omega)⟩
       have HX := Lib.hid (And.intro (HS.out j x hx).1 (HS.out i y hy).1)
       have HZ : Hid (leftL vs p = tornL x y) := Lib.hid (by
        have hpe : p % 2 = 0 := by have : (p : Int) % 2 = 0 := (by simpa using hev); omega
        unfold leftL
        rw [if_pos ⟨by omega, hpe⟩, ← hj]
        have hji : j - 1 = i := by omega
        rw [hji, List.getD_eq_getElem?_getD, List.getD_eq_getElem?_getD, hx, hy]
        rfl)
       have HC : Hid ((∀ w', Fr (fun _ => False) w w' → w'.rangeAt b (off + j * 128) (cellsB x)) ∧ (∀ w', Fr (fun _ => False) w w' → w'.rangeAt b (off + i * 128) (cellsB y))) := Lib.hid ⟨fun w' f => ((HS.out.keep f (fun q => q)) j x hx).2, fun w' f => ((HS.out.keep f (fun q => q)) i y hy).2⟩
       have hu := Tryz.underlying83
       have hsx : (Tryz.prog.info? 83).map (·.size) = some (cellsB x).length := by rw [infoSector, cellsB_len, HX.out.1]
       have hsy : (Tryz.prog.info? 83).map (·.size) = some (cellsB y).length := by rw [infoSector, cellsB_len, HX.out.2]
       have hcx : (cellsB x).length = 128 := by rw [cellsB_len, HX.out.1]
       have hcy : (cellsB y).length = 128 := by rw [cellsB_len, HX.out.2]
       have hox := cellsB_one x
       have hoy := cellsB_one y
       clear hx hy hi hj
       go_upto_region 7 with fail
       refine wp_region_held_drew (S := fun w' => Fr (fun _ => False) w w' ∧ ∃ y0 : List UInt8, y0.length = 128 ∧ Blk w' w.heap.size 83 (cellsB y0).toArray) (by kernel_rfl) (⟨HB.out.2.drew, nought 128, nought_len _, HB.out.1⟩) (fun hS0 => ?_)
       refine anyH_tk 0 29 (.slice (some ⟨b, off, none⟩) n ca) rfl rfl (.inl ⟨by rfl, fun w'' hS => by go_simp⟩) hS0 ?_
       (simp only [sA, sB, sC])
       refine anyH_tk 1 30 (.int .i64 (j : Nat)) rfl rfl (.inl ⟨by rfl, fun w'' hS => by go_simp⟩) hS0 ?_
       (simp only [sA, sB, sC])
       refine anyH_tk 2 31 (.pointer (some ⟨b, off + j * 128, none⟩)) rfl rfl (.inl ⟨by rfl, fun w'' hS => by go_simp⟩) hS0 ?_
       (simp only [sA, sB, sC])
       refine anyH_tk 3 32 (.agg (cellsB x).toArray) rfl rfl (yieldsIf_load_mid (by rfl) _ _ rfl _ _ rfl _ _ (fun w' f => HC.out.1 w' f.1) hu rfl hsx) hS0 ?_
       (simp only [sA, sB, sC])
       refine anyH_tk 4 33 (.slice (some ⟨b, off, none⟩) n ca) rfl rfl (.inl ⟨by rfl, fun w'' hS => by go_simp⟩) hS0 ?_
       (simp only [sA, sB, sC])
       refine anyH_tk 5 34 (.int .i64 (j : Nat)) rfl rfl (.inl ⟨by rfl, fun w'' hS => by go_simp⟩) hS0 ?_
       (simp only [sA, sB, sC])
       refine anyH_tk 6 35 (.int .i64 (i : Nat)) rfl rfl (.inl ⟨by rfl, fun w'' hS => by go_simp⟩) hS0 ?_
       (simp only [sA, sB, sC])
       refine anyH_tk 7 36 (.pointer (some ⟨b, off + i * 128, none⟩)) rfl rfl (.inl ⟨by rfl, fun w'' hS => by go_simp⟩) hS0 ?_
       (simp only [sA, sB, sC])
       refine anyH_tk 8 37 (.agg (cellsB y).toArray) rfl rfl (yieldsIf_load_mid (by rfl) _ _ rfl _ _ rfl _ _ (fun w' f => HC.out.2 w' f.1) hu rfl hsy) hS0 ?_
       (simp only [sA, sB, sC])
       refine anyH_one 9 38 (av (tornL x y)) (by kernel_rfl) (tame_call 38 rfl rfl (by rfl) (fun w'' hS => by go_simp) (fun w'' hS => ((dtorn_any w'' HX.out.1 HX.out.2).mono fun e w3 he => ⟨he.1, hS.1.trans he.2 (fun _ _ q => q), hS.2.imp fun y0 h => ⟨h.1, h.2.keep he.2 (fun q => q)⟩⟩))) hS0 (fun w3 hS0 => ?_)
       (simp only [sA, sB, sC])
       obtain ⟨y0, hl0, hb0⟩ := hS0.2
       have htl := tornL_len HX.out.1 HX.out.2
       have hb := hb0.over (o := 0) (m := tornL x y) (by rw [hl0, htl]; omega)
       rw [patch_all (by rw [hl0, htl])] at hb
       refine anyH_skip 10 _ (by kernel_rfl) rfl rfl (by rfl) (run_store_mid 83 _ _ rfl w.heap.size 0 (cellsB (tornL x y)).toArray rfl rfl (hb0.there (by simp [cellsB_len, hl0, htl])) (by rw [infoSector]; simp [cellsB_len, htl]) (all_oneCell_toArray (cellsB_one _))) ⟨Fr.setCells (.inr (Nat.le_refl _)) hS0.1, _, htl, hb⟩ ?_
       refine wpAnyH_done (by kernel_rfl) ?_ _
       have HE := Lib.hid (And.intro hb (And.intro (Fr.setCells (F := fun _ => False) (vs := (cellsB (tornL x y))) (o := 0) (.inr (Nat.le_refl _)) hS0.1) htl))
       go_wp2_with fail
       refine bodyPost_ret (results_cell_row rfl _ _ w.heap.size 83 (cellsB (tornL x y)).toArray (0, 0) _ rfl HE.out.1 Tryz.underlying83 rfl (by rw [infoSector]; simp [cellsB_len, HE.out.2.2])) rfl ⟨by rw [HZ.out], HE.out.2.1⟩
     | false =>
       have hno : ¬ (0 < p ∧ p % 2 = 0) := by
        have : ¬ (p : Int) % 2 = 0 := (by simpa using hev); omega
       have HX := Lib.hid (HS.out j x hx).1
       have HZ : Hid (leftL vs p = x) := Lib.hid (by
        unfold leftL
        rw [if_neg hno, ← hj, List.getD_eq_getElem?_getD, hx]
        rfl)
       have HC : Hid (w1.rangeAt b (off + j * 128) (cellsB x)) := Lib.hid ((HS.out.keep HB.out.2 (fun q => q)) j x hx).2
       clear hx hj hno
       go_wp2_with (first
        | (refine wpList_load_mid rfl 83 _ rfl b (off + j * 128) rfl (cellsB x) _ HC.out Tryz.underlying83 rfl (by rw [infoSector, cellsB_len, HX.out]) ?_)
        | (refine wpList_store_mid rfl 83 _ _ rfl w.heap.size 0 (cellsB x).toArray rfl rfl (HB.out.1.there (by simp [cellsB_len, nought_len, HX.out])) (by rw [infoSector]; simp [cellsB_len, HX.out]) (all_oneCell_toArray (cellsB_one _)) ?_))
       have hb := HB.out.1.over (o := 0) (m := x) (by rw [nought_len, HX.out]; omega)
       rw [patch_all (by rw [nought_len, HX.out])] at hb
       refine bodyPost_ret (results_cell_row rfl _ _ w.heap.size 83 (cellsB x).toArray (0, 0) _ rfl hb Tryz.underlying83 rfl (by rw [infoSector]; simp [cellsB_len, HX.out])) rfl ⟨by rw [HZ.out], Fr.setCells (.inr (Nat.le_refl _)) HB.out.2⟩
   · have hno : ¬ (0 < p ∧ p % 2 = 0) := by omega
     have hev : True := trivial
     have HX := Lib.hid (HS.out j x hx).1
     have HZ : Hid (leftL vs p = x) := Lib.hid (by
      unfold leftL
      rw [if_neg hno, ← hj, List.getD_eq_getElem?_getD, hx]
      rfl)
     have HC : Hid (w1.rangeAt b (off + j * 128) (cellsB x)) := Lib.hid ((HS.out.keep HB.out.2 (fun q => q)) j x hx).2
     clear hx hj hno
     go_wp2_with (first
      | (refine wpList_load_mid rfl 83 _ rfl b (off + j * 128) rfl (cellsB x) _ HC.out Tryz.underlying83 rfl (by rw [infoSector, cellsB_len, HX.out]) ?_)
      | (refine wpList_store_mid rfl 83 _ _ rfl w.heap.size 0 (cellsB x).toArray rfl rfl (HB.out.1.there (by simp [cellsB_len, nought_len, HX.out])) (by rw [infoSector]; simp [cellsB_len, HX.out]) (all_oneCell_toArray (cellsB_one _)) ?_))
     have hb := HB.out.1.over (o := 0) (m := x) (by rw [nought_len, HX.out]; omega)
     rw [patch_all (by rw [nought_len, HX.out])] at hb
     refine bodyPost_ret (results_cell_row rfl _ _ w.heap.size 83 (cellsB x).toArray (0, 0) _ rfl hb Tryz.underlying83 rfl (by rw [infoSector]; simp [cellsB_len, HX.out])) rfl ⟨by rw [HZ.out], Fr.setCells (.inr (Nat.le_refl _)) HB.out.2⟩
 · have hpq := pick_pos hq0 hneg
   rw [hpe] at hpq
   go_enter Tryz.func41, Tryz.ntmps41
   go_upto_region 5 with (refine wpList_zero rfl 83 rfl zeroSector ?_)
   clear hneg hpq
   generalize w.alloc (.cells (cellsB (nought 128)).toArray 83) = w1 at *
   obtain ⟨j, hj⟩ : ∃ j, j = (p + 1) / 2 := ⟨_, rfl⟩
   have hj2 : ((p : Int) + 1) / 2 = (j : Int) := by omega
   have hi0 : (0 : Int) ≤ (j : Int) := by omega
   have hi1 : (j : Int) < (n : Int) := by have := HQ.out.1; omega
   obtain ⟨x, hx⟩ : ∃ x, vs[j]? = some x := ⟨_, List.getElem?_eq_getElem (by have := HQ.out.2.2; omega)⟩
   by_cases hp0 : (0 : Int) < (p : Int)
   · cases hev : ((p : Int) % 2 == 0) with
     | true =>
       obtain ⟨i, hi⟩ : ∃ i, i + 1 = j := ⟨j - 1, by have : (p : Int) % 2 = 0 := (by simpa using hev); omega⟩
       have hi2 : (j : Int) - 1 = (i : Int) := by omega
       have hi3 : (0 : Int) ≤ (i : Int) := by omega
       have hi4 : (i : Int) < (n : Int) := by omega
       have hwi : IntKind.i64.wrap (i : Int) = (i : Int) := by
        simp [IntKind.wrap, IntKind.signed, IntKind.bits]
        omega
       obtain ⟨y, hy⟩ : ∃ y, vs[i]? = some y := ⟨_, List.getElem?_eq_getElem (by have := HQ.out.2.2; omega)⟩
       have HX := Lib.hid (And.intro (HS.out j x hx).1 (HS.out i y hy).1)
       have HZ : Hid (leftL vs p = tornL x y) := Lib.hid (by
        have hpe : p % 2 = 0 := by have : (p : Int) % 2 = 0 := (by simpa using hev); omega
        unfold leftL
        rw [if_pos ⟨by omega, hpe⟩, ← hj]
        have hji : j - 1 = i := by omega
        rw [hji, List.getD_eq_getElem?_getD, List.getD_eq_getElem?_getD, hx, hy]
        rfl)
       have HC : Hid ((∀ w', Fr (fun _ => False) w w' → w'.rangeAt b (off + j * 128) (cellsB x)) ∧ (∀ w', Fr (fun _ => False) w w' → w'.rangeAt b (off + i * 128) (cellsB y))) := Lib.hid ⟨fun w' f => ((HS.out.keep f (fun q => q)) j x hx).2, fun w' f => ((HS.out.keep f (fun q => q)) i y hy).2⟩
       have hu := Tryz.underlying83
       have hsx : (Tryz.prog.info? 83).map (·.size) = some (cellsB x).length := by rw [infoSector, cellsB_len, HX.out.1]
       have hsy : (Tryz.prog.info? 83).map (·.size) = some (cellsB y).length := by rw [infoSector, cellsB_len, HX.out.2]
       have hcx : (cellsB x).length = 128 := by rw [cellsB_len, HX.out.1]
       have hcy : (cellsB y).length = 128 := by rw [cellsB_len, HX.out.2]
       have hox := cellsB_one x
       have hoy := cellsB_one y
       clear hx hy hi hj
       go_upto_region 7 with fail
       refine wp_region_held_drew (S := fun w' => Fr (fun _ => False) w w' ∧ ∃ y0 : List UInt8, y0.length = 128 ∧ Blk w' w.heap.size 83 (cellsB y0).toArray) (by kernel_rfl) (⟨HB.out.2.drew, nought 128, nought_len _, HB.out.1⟩) (fun hS0 => ?_)
       refine anyH_tk 0 29 (.slice (some ⟨b, off, none⟩) n ca) rfl rfl (.inl ⟨by rfl, fun w'' hS => by go_simp⟩) hS0 ?_
       (simp only [sA, sB, sC])
       refine anyH_tk 1 30 (.int .i64 (j : Nat)) rfl rfl (.inl ⟨by rfl, fun w'' hS => by go_simp⟩) hS0 ?_
       (simp only [sA, sB, sC])
       refine anyH_tk 2 31 (.pointer (some ⟨b, off + j * 128, none⟩)) rfl rfl (.inl ⟨by rfl, fun w'' hS => by go_simp⟩) hS0 ?_
       (simp only [sA, sB, sC])
       refine anyH_tk 3 32 (.agg (cellsB x).toArray) rfl rfl (yieldsIf_load_mid (by rfl) _ _ rfl _ _ rfl _ _ (fun w' f => HC.out.1 w' f.1) hu rfl hsx) hS0 ?_
       (simp only [sA, sB, sC])
       refine anyH_tk 4 33 (.slice (some ⟨b, off, none⟩) n ca) rfl rfl (.inl ⟨by rfl, fun w'' hS => by go_simp⟩) hS0 ?_
       (simp only [sA, sB, sC])
       refine anyH_tk 5 34 (.int .i64 (j : Nat)) rfl rfl (.inl ⟨by rfl, fun w'' hS => by go_simp⟩) hS0 ?_
       (simp only [sA, sB, sC])
       refine anyH_tk 6 35 (.int .i64 (i : Nat)) rfl rfl (.inl ⟨by rfl, fun w'' hS => by go_simp⟩) hS0 ?_
       (simp only [sA, sB, sC])
       refine anyH_tk 7 36 (.pointer (some ⟨b, off + i * 128, none⟩)) rfl rfl (.inl ⟨by rfl, fun w'' hS => by go_simp⟩) hS0 ?_
       (simp only [sA, sB, sC])
       refine anyH_tk 8 37 (.agg (cellsB y).toArray) rfl rfl (yieldsIf_load_mid (by rfl) _ _ rfl _ _ rfl _ _ (fun w' f => HC.out.2 w' f.1) hu rfl hsy) hS0 ?_
       (simp only [sA, sB, sC])
       refine anyH_one 9 38 (av (tornL x y)) (by kernel_rfl) (tame_call 38 rfl rfl (by rfl) (fun w'' hS => by go_simp) (fun w'' hS => ((dtorn_any w'' HX.out.1 HX.out.2).mono fun e w3 he => ⟨he.1, hS.1.trans he.2 (fun _ _ q => q), hS.2.imp fun y0 h => ⟨h.1, h.2.keep he.2 (fun q => q)⟩⟩))) hS0 (fun w3 hS0 => ?_)
       (simp only [sA, sB, sC])
       obtain ⟨y0, hl0, hb0⟩ := hS0.2
       have htl := tornL_len HX.out.1 HX.out.2
       have hb := hb0.over (o := 0) (m := tornL x y) (by rw [hl0, htl]; omega)
       rw [patch_all (by rw [hl0, htl])] at hb
       refine anyH_skip 10 _ (by kernel_rfl) rfl rfl (by rfl) (run_store_mid 83 _ _ rfl w.heap.size 0 (cellsB (tornL x y)).toArray rfl rfl (hb0.there (by simp [cellsB_len, hl0, htl])) (by rw [infoSector]; simp [cellsB_len, htl]) (all_oneCell_toArray (cellsB_one _))) ⟨Fr.setCells (.inr (Nat.le_refl _)) hS0.1, _, htl, hb⟩ ?_
       refine wpAnyH_done (by kernel_rfl) ?_ _
       have HE := Lib.hid (And.intro hb (And.intro (Fr.setCells (F := fun _ => False) (vs := (cellsB (tornL x y))) (o := 0) (.inr (Nat.le_refl _)) hS0.1) htl))
       go_wp2_with fail
       refine bodyPost_ret (results_cell_row rfl _ _ w.heap.size 83 (cellsB (tornL x y)).toArray (0, 0) _ rfl HE.out.1 Tryz.underlying83 rfl (by rw [infoSector]; simp [cellsB_len, HE.out.2.2])) rfl ⟨by rw [HZ.out], HE.out.2.1⟩
     | false =>
       have hno : ¬ (0 < p ∧ p % 2 = 0) := by
        have : ¬ (p : Int) % 2 = 0 := (by simpa using hev); omega
       have HX := Lib.hid (HS.out j x hx).1
       have HZ : Hid (leftL vs p = x) := Lib.hid (by
        unfold leftL
        rw [if_neg hno, ← hj, List.getD_eq_getElem?_getD, hx]
        rfl)
       have HC : Hid (w1.rangeAt b (off + j * 128) (cellsB x)) := Lib.hid ((HS.out.keep HB.out.2 (fun q => q)) j x hx).2
       clear hx hj hno
       go_wp2_with (first
        | (refine wpList_load_mid rfl 83 _ rfl b (off + j * 128) rfl (cellsB x) _ HC.out Tryz.underlying83 rfl (by rw [infoSector, cellsB_len, HX.out]) ?_)
        | (refine wpList_store_mid rfl 83 _ _ rfl w.heap.size 0 (cellsB x).toArray rfl rfl (HB.out.1.there (by simp [cellsB_len, nought_len, HX.out])) (by rw [infoSector]; simp [cellsB_len, HX.out]) (all_oneCell_toArray (cellsB_one _)) ?_))
       have hb := HB.out.1.over (o := 0) (m := x) (by rw [nought_len, HX.out]; omega)
       rw [patch_all (by rw [nought_len, HX.out])] at hb
       refine bodyPost_ret (results_cell_row rfl _ _ w.heap.size 83 (cellsB x).toArray (0, 0) _ rfl hb Tryz.underlying83 rfl (by rw [infoSector]; simp [cellsB_len, HX.out])) rfl ⟨by rw [HZ.out], Fr.setCells (.inr (Nat.le_refl _)) HB.out.2⟩
   · have hno : ¬ (0 < p ∧ p % 2 = 0) := by omega
     have hev : True := trivial
     have HX := Lib.hid (HS.out j x hx).1
     have HZ : Hid (leftL vs p = x) := Lib.hid (by
      unfold leftL
      rw [if_neg hno, ← hj, List.getD_eq_getElem?_getD, hx]
      rfl)
     have HC : Hid (w1.rangeAt b (off + j * 128) (cellsB x)) := Lib.hid ((HS.out.keep HB.out.2 (fun q => q)) j x hx).2
     clear hx hj hno
     go_wp2_with (first
      | (refine wpList_load_mid rfl 83 _ rfl b (off + j * 128) rfl (cellsB x) _ HC.out Tryz.underlying83 rfl (by rw [infoSector, cellsB_len, HX.out]) ?_)
      | (refine wpList_store_mid rfl 83 _ _ rfl w.heap.size 0 (cellsB x).toArray rfl rfl (HB.out.1.there (by simp [cellsB_len, nought_len, HX.out])) (by rw [infoSector]; simp [cellsB_len, HX.out]) (all_oneCell_toArray (cellsB_one _)) ?_))
     have hb := HB.out.1.over (o := 0) (m := x) (by rw [nought_len, HX.out]; omega)
     rw [patch_all (by rw [nought_len, HX.out])] at hb
     refine bodyPost_ret (results_cell_row rfl _ _ w.heap.size 83 (cellsB x).toArray (0, 0) _ rfl hb Tryz.underlying83 rfl (by rw [infoSector]; simp [cellsB_len, HX.out])) rfl ⟨by rw [HZ.out], Fr.setCells (.inr (Nat.le_refl _)) HB.out.2⟩
end Go.Proofs.YtcnlgbjkjlbmbaaGreat


