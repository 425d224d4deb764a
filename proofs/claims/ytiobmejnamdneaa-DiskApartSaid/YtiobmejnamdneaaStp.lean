/- The program's disk: step, Fuse, Read. -/
import Derived.Test.YtiobmejnamdneaaDme
namespace Go.Proofs.Ytiobmejnamdneaa
open Go.RowKit

theorem infoU8 : (Try.prog.info? 5).map (fun i => (i.zero, i.size, i.bytes)) = some (some (.int .u8 0), 1, 1) := by kernel_rfl
theorem infoSec : (Try.prog.info? 31).map (fun i => (i.zero, i.size, i.bytes)) = some (some (av (nought 128)), 128, 128) := by kernel_rfl
theorem build_sector (w : World) : (Instr.build 31 #[]).run Try.prog w = .ok (av (nought 128)) w := by
  unfold Instr.build
  obtain ⟨i0, hi, hz0, hz1, hz2⟩ := info_parts infoU8
  rw [Sem.run_bind, zeroSector]
  simp [run_underlying Try.underlying31, Instr.fill, Value.cells, sizeOf, typeInfo, hi]

section
variable {w : World} {g n c : Nat} {A : Option Addr} {m : Value} {f dd : Bool} {l : Int}

/-- Is it dead behind a step? How many are left then? -/
def deadS (f : Bool) (l : Int) (dd : Bool) : Bool := dd || (f && l == 0)
def leftS (f : Bool) (l : Int) (dd : Bool) : Int := if f && !deadS f l dd then l - 1 else l
theorem step_any (h : Blk w g 63 (dskC A n c m f l dd)) (h0 : 0 ≤ l) (h1 : l ≤ 9223372036854775807) : Calls Try.prog 35 #[.pointer (some ⟨g, 0, none⟩)] w fun e w' =>
    e = .returned (.int .i64 (if deadS f l dd then 10 else 0)) ∧ Blk w' g 63 (dskC A n c m f (leftS f l dd) (deadS f l dd)) ∧ Fr (fun i => i = g) w w' := by
  obtain ⟨c0, c1, c2, c3, c4⟩ := dsk_cells h
  have f3 := h.frozen 3
  have f4 := h.frozen 4
  cases f with
  | false =>
    cases dd with
    | true =>
      have hd : deadS false l true = true := by simp [deadS]
      have hl2 : leftS false l true = l := by simp [leftS]
      rw [hd, hl2]
      simp only [↓reduceIte]
      go_enter Try.func35, Try.ntmps35
      go_wp2_with fail
      go_ret
      exact ⟨rfl, h, Fr.refl _ _⟩
    | false =>
      have hd : deadS false l false = false := by simp [deadS]
      have hl2 : leftS false l false = l := by simp [leftS]
      rw [hd, hl2]
      simp only [Bool.false_eq_true, ↓reduceIte]
      go_enter Try.func35, Try.ntmps35
      go_wp2_with fail
      go_ret
      exact ⟨rfl, h, Fr.refl _ _⟩
  | true =>
    by_cases hl : l = 0
    · subst hl
      have hd : deadS true 0 dd = true := by simp [deadS]
      have hl2 : leftS true 0 dd = 0 := by simp [leftS, hd]
      rw [hd, hl2]
      simp only [↓reduceIte]
      have hs := h.set_ 4 (.bool true)
      have hk : (w.setCell ⟨g, 4, none⟩ (.bool true)).cell? ⟨g, 4, none⟩ = some (.bool true) := hs.cell 4
      go_enter Try.func35, Try.ntmps35
      go_wp2_with fail
      go_ret
      exact ⟨rfl, hs, (Fr.refl (fun i => i = g) w).setCell (p := ⟨g, 4, none⟩) (.inl rfl) _⟩
    · have hb : (l == 0) = false := by simp [hl]
      cases dd with
      | true =>
        have hd : deadS true l true = true := by simp [deadS]
        have hl2 : leftS true l true = l := by simp [leftS, hd]
        rw [hd, hl2]
        simp only [↓reduceIte]
        go_enter Try.func35, Try.ntmps35
        go_wp2_with fail
        go_ret
        exact ⟨rfl, h, Fr.refl _ _⟩
      | false =>
        have hd : deadS true l false = false := by simp [deadS, hb]
        have hl2 : leftS true l false = l - 1 := by simp [leftS, hd]
        rw [hd, hl2]
        simp only [Bool.false_eq_true, ↓reduceIte]
        have hs := h.set_ 3 (.int .i64 (l - 1))
        have hw : IntKind.i64.wrap (l - 1) = l - 1 := by
          simp [IntKind.wrap, IntKind.signed, IntKind.bits]
          omega
        go_enter Try.func35, Try.ntmps35
        go_wp2_with fail
        go_ret
        exact ⟨rfl, hs, (Fr.refl (fun i => i = g) w).setCell (p := ⟨g, 3, none⟩) (.inl rfl) _⟩

theorem fuse_nil (w : World) (k : Int) : Calls Try.prog 25 #[.pointer none, .int .i64 k] w fun e w' => e = .returned (.int .i64 1) ∧ w = w' := by
  go_enter Try.func25, Try.ntmps25
  go_wp2_with (go_at_call 27; refine (none_nil _).mono ?_; rintro e w' ⟨rfl, rfl⟩)
  go_ret
  exact ⟨rfl, rfl⟩
theorem fuse_zero {n : Nat} (hn : n = 0) (h : Blk w g 63 (dskC A n c m f l dd)) (k : Int) : Calls Try.prog 25 #[.pointer (some ⟨g, 0, none⟩), .int .i64 k] w fun e w' => e = .returned (.int .i64 1) ∧ w = w' := by
  have hN := none_any h
  rw [decide_eq_true hn] at hN
  go_enter Try.func25, Try.ntmps25
  go_wp2_with (go_at_call 27; refine hN.mono ?_; rintro e w' ⟨rfl, rfl⟩)
  go_ret
  exact ⟨rfl, rfl⟩
theorem fuse_neg (h : Blk w g 63 (dskC A n c m f l dd)) (hn : 0 < n) (k : Int) (hk : k < 0) : Calls Try.prog 25 #[.pointer (some ⟨g, 0, none⟩), .int .i64 k] w fun e w' => e = .returned (.int .i64 2) ∧ w = w' := by
  have hN := none_any h
  rw [decide_eq_false (by omega)] at hN
  go_enter Try.func25, Try.ntmps25
  go_wp2_with (go_at_call 27; refine hN.mono ?_; rintro e w' ⟨rfl, rfl⟩)
  go_ret
  exact ⟨rfl, rfl⟩
theorem fuse_any (h : Blk w g 63 (dskC A n c m f l dd)) (hn : 0 < n) (k : Int) (hk : ¬ k < 0) : Calls Try.prog 25 #[.pointer (some ⟨g, 0, none⟩), .int .i64 k] w fun e w' =>
    e = .returned (.int .i64 0) ∧ Blk w' g 63 (dskC A n c m true k dd) ∧ Fr (fun i => i = g) w w' := by
  have hN := none_any h
  rw [decide_eq_false (by omega)] at hN
  have h2 := h.set_ 2 (.bool true)
  have h3 := h2.set_ 3 (.int .i64 k)
  obtain ⟨c0, c1, c2, c3, c4⟩ := dsk_cells h
  have f2 := h.frozen 2
  have f3 := h.frozen 3
  have k3 : (w.setCell ⟨g, 2, none⟩ (.bool true)).cell? ⟨g, 3, none⟩ = some (.int .i64 l) := h2.cell 3
  have q3 := h2.frozen 3
  have HS := Lib.hid h3
  clear h2 h3
  go_enter Try.func25, Try.ntmps25
  go_wp2_with (go_at_call 27; refine hN.mono ?_; rintro e w' ⟨rfl, rfl⟩)
  go_ret
  exact ⟨rfl, HS.out, ((Fr.refl (fun i => i = g) _).setCell (p := ⟨g, 2, none⟩) (.inl rfl) _).setCell (p := ⟨g, 3, none⟩) (.inl rfl) _⟩

theorem results_read {tmps : Array Value} {w : World} {b : Nat} {cs : List Value} {v : Value} (h4 : tmps.getD 4 undef = .pointer (some ⟨b, 0, none⟩)) (h5 : tmps.getD 5 undef = v) (hl : cs.length = 128)
    (hb : Blk w b 31 cs.toArray) : (results Try.f19 tmps).run Try.prog w = .ok (.tuple #[.agg cs.toArray, v]) w := by
  have e := run_loadVar_row (P := Try.prog) w b 31 31 cs.toArray (0, 0) _ hb Try.underlying31 rfl (by rw [infoSector]; simp [hl])
  have h4' : tmps[4]?.getD undef = .pointer (some ⟨b, 0, none⟩) := by simpa using h4
  have h5' : tmps[5]?.getD undef = v := by simpa using h5
  simp [results, Try.f19, h4', h5', asAddr, e]

/-- Read where there is no such sector: has says which error. -/
theorem read_err {p : Value} {i x : Int} (hx : x ≠ 0) (hh : ∀ w', Fr (fun _ => False) w w' → Calls Try.prog 34 #[p, .int .i64 i] w' fun e w'' => e = .returned (.int .i64 x) ∧ w' = w'') :
    Calls Try.prog 19 #[p, .int .i64 i] w fun e w' => e = .returned (.tuple #[av (nought 128), .int .i64 x]) ∧ Fr (fun _ => False) w w' := by
  have hf := (Fr.refl (fun _ => False) w).alloc (.cells (cellsB (nought 128)).toArray 31)
  have HB := Lib.hid (And.intro (Blk.new w 31 (cellsB (nought 128)).toArray) hf)
  have HH := hh _ hf
  have hbs := build_sector
  have hxb : (x == 0) = false := by simp [hx]
  clear hh hf
  go_enter Try.func19, Try.ntmps19
  go_wp2_with (first
    | (refine wpList_zero rfl 31 rfl zeroSector ?_)
    | (go_at_call 34; refine HH.mono ?_; rintro e w' ⟨rfl, rfl⟩)
    | (refine wpList_store_mid rfl 31 _ _ rfl w.heap.size 0 (cellsB (nought 128)).toArray rfl rfl (HB.out.1.there (by simp)) (by rw [infoSector]; simp [cellsB_len, nought_len]) (all_oneCell_toArray (cellsB_one _)) ?_))
  have hb := HB.out.1.over (o := 0) (m := nought 128) (by rw [nought_len]; omega)
  rw [patch_all rfl] at hb
  refine bodyPost_ret (results_read rfl rfl (by rw [cellsB_len, nought_len]) hb) rfl ⟨rfl, Fr.setCells (.inr (Nat.le_refl _)) HB.out.2⟩

set_option maxRecDepth 100000 in
/-- Read of a sector that there is. -/
theorem read_any {R k : Nat} {s : List UInt8} (h : Blk w g 63 (dskC (some ⟨R, 0, none⟩) n c m f l dd)) (hs : s.length = 128) (hr : w.rangeAt R (k * 128) (cellsB s)) (hk : k < n) :
    Calls Try.prog 19 #[.pointer (some ⟨g, 0, none⟩), .int .i64 k] w fun e w' => e = .returned (.tuple #[av s, .int .i64 0]) ∧ Fr (fun _ => False) w w' := by
  have hf := (Fr.refl (fun _ => False) w).alloc (.cells (cellsB (nought 128)).toArray 31)
  have h' := h.keep hf (fun q => q)
  have hr' : Hid ((w.alloc (.cells (cellsB (nought 128)).toArray 31)).rangeAt R (k * 128) (cellsB s)) := Lib.hid fun j v hv => (hf.cell (World.block_lt_of_cell? w _ (hr j v hv)) (fun q => q)).trans (hr j v hv)
  have HB := Lib.hid (And.intro (Blk.new w 31 (cellsB (nought 128)).toArray) (And.intro hf hs))
  have HH := has_any h' (k : Int)
  have he : hasE n (k : Int) = 0 := by unfold hasE; rw [if_neg (by omega), if_neg (by omega)]
  rw [he] at HH
  obtain ⟨c0, c1, c2, c3, c4⟩ := dsk_cells h'
  have hi0 : (0 : Int) ≤ (k : Int) := by omega
  have hi1 : (k : Int) < (n : Int) := by omega
  clear hf h' hr he h hs
  go_enter Try.func19, Try.ntmps19
  go_wp2_with (first
    | (refine wpList_zero rfl 31 rfl zeroSector ?_)
    | (go_at_call 34; refine HH.mono ?_; rintro e w' ⟨rfl, rfl⟩)
    | (refine wpList_load_mid rfl 31 _ rfl R (k * 128) rfl (cellsB s) _ hr'.out Try.underlying31 rfl (by rw [infoSector, cellsB_len, HB.out.2.2]) ?_)
    | (refine wpList_store_mid rfl 31 _ _ rfl w.heap.size 0 (cellsB s).toArray rfl rfl (HB.out.1.there (by simp [cellsB_len, nought_len, HB.out.2.2])) (by rw [infoSector]; simp [cellsB_len, HB.out.2.2]) (all_oneCell_toArray (cellsB_one _)) ?_))
  have hb := HB.out.1.over (o := 0) (m := s) (by rw [nought_len, HB.out.2.2]; omega)
  rw [patch_all (by rw [nought_len, HB.out.2.2])] at hb
  refine bodyPost_ret (results_read rfl rfl (by rw [cellsB_len, HB.out.2.2]) hb) rfl ⟨rfl, Fr.setCells (.inr (Nat.le_refl _)) HB.out.2.1⟩
end
end Go.Proofs.Ytiobmejnamdneaa
