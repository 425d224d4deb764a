/- disk.New. -/
import Derived.Test.YtiobmejnamdneaaDsk
namespace Go.Proofs.Ytiobmejnamdneaa
open Go.RowKit

theorem made_bytes (z : Array Value) (k N : Nat) (hz : z = (cellsB (nought k)).toArray) (hk : 0 < k) : madeCells z N = (cellsB (nought N)).toArray := by
  subst hz
  apply Array.ext
  · simp [madeCells, cellsB, nought]
  · intro i h1 h2
    have h3 : i % k < k := Nat.mod_lt _ hk
    simp [madeCells, cellsB, nought, h3]
theorem make_sectors (W : World) (N : Nat) (hN : N ≤ 1000000) : (Instr.makeSlice 38 (.int .i64 (N : Nat)) (.int .i64 (N : Nat))).run Try.prog W = .ok (.slice (some ⟨W.heap.size, 0, none⟩) N N) (W.alloc (.cells (cellsB (nought (N * 128))).toArray 31)) := by
  obtain ⟨i0, hi, hz0, hz1, hz2⟩ := info_parts infoSec
  have h := run_make (P := Try.prog) W 38 31 i0 (av (nought 128)) Try.underlying38 hi hz0 .i64 .i64 N N (by omega) (by omega) (by rw [hz2]; omega) (by omega)
  rw [h, hz1, made_bytes (av (nought 128)).cells 128 _ rfl (by omega)]
  simp

theorem flat_nought : ∀ n : Nat, (List.replicate n (nought 128)).flatten = nought (n * 128)
  | 0 => rfl
  | n + 1 => by
    rw [List.replicate_succ, List.flatten_cons, flat_nought n]
    unfold nought
    rw [List.replicate_append_replicate]
    congr 1
    omega
/-- A new disk. -/
def newD (n : Nat) : DS := ⟨List.replicate n (nought 128), fun _ => [], false, 0, false, n, []⟩
theorem new_disk (w : World) {n : Nat} (h0 : 0 < n) (h1 : n ≤ 8192) : DiskW (((w.alloc (.cells (cellsB (nought (n * 128))).toArray 31)).alloc (.map #[] 0)).alloc (.cells (dskC (some ⟨w.heap.size, 0, none⟩) n n (.map (some (w.heap.size + 1))) false 0 false) 63))
    (fun i => w.heap.size ≤ i) (w.heap.size + 1 + 1) w.heap.size (w.heap.size + 1) (.map []) (fun _ => undef) (newD n) where
  fg := by show w.heap.size ≤ w.heap.size + 1 + 1; omega
  fR := Nat.le_refl _
  fM := Nat.le_succ _
  gR := by omega
  gM := by omega
  rM := by omega
  n0 := by simpa [newD] using h0
  n1 := by simpa [newD] using h1
  hl := fun s hs => by
    simp only [newD, List.mem_replicate] at hs
    rw [hs.2, nought_len]
  l0 := by simp [newD]
  l1 := by simp [newD]
  blk := by
    have := Blk.new ((w.alloc (.cells (cellsB (nought (n * 128))).toArray 31)).alloc (.map #[] 0)) 63 (dskC (some ⟨w.heap.size, 0, none⟩) n n (.map (some (w.heap.size + 1))) false 0 false)
    simpa [newD] using this
  red := by
    have := ((Blk.new w 31 (cellsB (nought (n * 128))).toArray).keep (F := fun _ => False) ((Fr.refl _ _).alloc (.map #[] 0)) (fun q => q)).keep (F := fun _ => False) ((Fr.refl _ _).alloc (.cells (dskC (some ⟨w.heap.size, 0, none⟩) n n (.map (some (w.heap.size + 1))) false 0 false) 63)) (fun q => q)
    have e : (newD n).rd.flatten ++ (newD n).sp = nought (n * 128) := (List.append_nil _).trans (flat_nought n)
    rw [e]
    exact this
  map := by
    have h := World.ownsMap_made (w.alloc (.cells (cellsB (nought (n * 128))).toArray 31)) Try.prog 3 HV
    have e : (w.alloc (.cells (cellsB (nought (n * 128))).toArray 31)).heap.size = w.heap.size + 1 := by simp
    rw [e] at h
    exact h.alloc _
  keys := fun k hk => by cases hk
  opn := fun i _ => ⟨fun hk => (by cases hk), fun hv => absurd rfl hv⟩
  at_ := fun i _ hv => absurd rfl hv
  row := fun i _ hv => absurd rfl hv
  all := fun i _ s hs => by cases hs
  own := fun i b _ hv => absurd rfl hv
  sep := fun i j b _ _ hv => absurd rfl hv
theorem new_bad (w : World) {n : Int} (h : n < 1 ∨ 8192 < n) : Calls Try.prog 15 #[.int .i64 n] w fun e w' => e = .returned (.tuple #[.pointer none, .int .i64 2]) ∧ w = w' := by
  by_cases h1 : n < 1
  · go_enter Try.func15, Try.ntmps15
    go_wp2_with fail
    go_ret2
    exact ⟨rfl, rfl⟩
  · have h2 : 8192 < n := by omega
    go_enter Try.func15, Try.ntmps15
    go_wp2_with fail
    go_ret2
    exact ⟨rfl, rfl⟩
theorem new_any (w : World) {n : Nat} (h0 : 0 < n) (h1 : n ≤ 8192) : Calls Try.prog 15 #[.int .i64 n] w fun e w' =>
    e = .returned (.tuple #[.pointer (some ⟨w.heap.size + 1 + 1, 0, none⟩), .int .i64 0]) ∧ DiskW w' (fun i => w.heap.size ≤ i) (w.heap.size + 1 + 1) w.heap.size (w.heap.size + 1) (.map []) (fun _ => undef) (newD n) ∧ Fr (fun _ => False) w w' := by
  have hmk := make_sectors w n (by omega)
  have hmm := @run_makeMap Try.prog
  have hn1 : ¬ ((n : Int) < 1) := by omega
  have hn2 : ¬ ((8192 : Int) < (n : Int)) := by omega
  have HN := Lib.hid (And.intro h0 h1)
  clear h0 h1
  go_enter Try.func15, Try.ntmps15
  go_wp2_with fail
  go_ret2
  exact ⟨rfl, new_disk w HN.out.1 HN.out.2, (((Fr.refl _ w).alloc _).alloc _).alloc _⟩
end Go.Proofs.Ytiobmejnamdneaa
