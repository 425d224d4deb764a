/- couponref06: Begin; pages of noughts. -/
import Derived.Test.YtcnlgbjkjlbmbaaGreatQal
namespace Go.Proofs.YtcnlgbjkjlbmbaaGreat
open Go.RowKit

theorem make_pages (W : World) (N : Nat) (hN : N ≤ 10000) : (Instr.makeSlice 34 (.int .i64 (N : Nat)) (.int .i64 (N : Nat))).run Tryz.prog W = .ok (.slice (some ⟨W.heap.size, 0, none⟩) N N) (W.alloc (.cells (cellsB (nought (N * 512))).toArray 50)) := by
 obtain ⟨i0, hi, hz0, hz1, hz2⟩ := info_parts infoPg
 have h := run_make (P := Tryz.prog) W 34 50 i0 (av (nought 512)) Tryz.underlying34 hi hz0 .i64 .i64 N N (by omega) (by omega) (by rw [hz2]; omega) (by omega)
 rw [h, hz1, made_bytes (av (nought 512)).cells 512 _ rfl (by omega)]
 simp
def flatP (l : List (List UInt8)) : List UInt8 := l.flatten
theorem flatP_nought (N : Nat) : flatP (List.replicate N (nought 512)) = nought (N * 512) := by
 induction N with
 | zero => rfl
 | succ n ih =>
   unfold flatP at ih ⊢
   rw [List.replicate_succ, List.flatten_cons, ih]
   unfold nought
   rw [List.replicate_append_replicate]
   congr 1
   omega
theorem flatP_len {l : List (List UInt8)} (h : ∀ x ∈ l, x.length = 512) : (flatP l).length = l.length * 512 := by
 unfold flatP
 induction l with
 | nil => rfl
 | cons a l ih =>
   rw [List.flatten_cons, List.length_append, h a (by simp), ih (fun x hx => h x (by simp [hx])), List.length_cons]
   omega
theorem flatP_at : ∀ {l : List (List UInt8)} {i : Nat} {x : List UInt8}, (∀ x ∈ l, x.length = 512) → l[i]? = some x → ∀ j u, (cellsB x)[j]? = some u → (cellsB (flatP l))[i * 512 + j]? = some u
 | [], i, x, _, hi, _, _, _ => by simp at hi
 | a :: l, 0, x, h, hi, j, u, hj => by
   have e : x = a := by simpa using hi.symm
   subst e
   show (cellsB (x ++ flatP l))[0 * 512 + j]? = some u
   have hx := h x (by simp)
   rw [Nat.zero_mul, Nat.zero_add]
   unfold cellsB at hj ⊢
   rw [List.map_append, List.getElem?_append_left (List.getElem?_eq_some_iff.1 hj).1]
   exact hj
 | a :: l, i + 1, x, h, hi, j, u, hj => by
   have ha := h a (by simp)
   have ih := flatP_at (l := l) (i := i) (fun x hx => h x (by simp [hx])) (by simpa using hi) j u hj
   show (cellsB (a ++ flatP l))[(i + 1) * 512 + j]? = some u
   unfold cellsB at ih ⊢
   rw [List.map_append, List.getElem?_append_right (by simp [ha]; omega)]
   rw [show (i + 1) * 512 + j - (a.map fun b => Value.int .u8 (b.toNat : Nat)).length = i * 512 + j by rw [List.length_map, ha]; omega]
   exact ih
theorem pgsV_blk {w : World} {b : Nat} {l : List (List UInt8)} (h : ∀ x ∈ l, x.length = 512) (hb : Blk w b 50 (cellsB (flatP l)).toArray) (hl : l.length ≤ 10000) : PgsV w (.slice (some ⟨b, 0, none⟩) l.length l.length) l := by
 refine ⟨_, _, rfl, Nat.le_refl _, by simp only [maxLen]; omega, h, fun _ => ⟨b, 0, rfl, fun i x hi j u hj => ?_⟩⟩
 rw [hb.cell, Nat.zero_add, List.getElem?_toArray]
 exact flatP_at h hi j u hj
theorem pgsV_made (W : World) (N : Nat) (hN : N ≤ 10000) : PgsV (W.alloc (.cells (cellsB (nought (N * 512))).toArray 50)) (.slice (some ⟨W.heap.size, 0, none⟩) N N) (List.replicate N (nought 512)) := by
 have hb := Blk.new W 50 (cellsB (nought (N * 512))).toArray
 rw [← flatP_nought] at hb
 have := pgsV_blk (fun x hx => by rw [List.eq_of_mem_replicate hx]; exact nought_len 512) hb (by rw [List.length_replicate]; exact hN)
 rw [List.length_replicate, flatP_nought] at this
 exact this
theorem build_ref6 (b N : Nat) (fr z : Int) (w : World) : (Instr.build 79 #[(0, .slice (some ⟨b, 0, none⟩) N N), (4, .int .i64 fr), (5, .int .i64 z), (6, .int .i64 z)]).run Tryz.prog w = .ok (.agg #[.slice (some ⟨b, 0, none⟩) N N, .slice none 0 0, .slice none 0 0, .slice none 0 0, .int .i64 fr, .int .i64 z, .int .i64 z]) w := by kernel_rfl
set_option maxRecDepth 100000 in
theorem begin6_any (w : World) {N : Nat} (hN : N ≤ 1000) (z fr : Int) : Calls Tryz.prog 35 #[.int .i64 (N : Nat), .int .i64 z, .int .i64 fr] w fun e w' => ∃ r, e = .returned (.pointer (some ⟨r, 0, none⟩)) ∧ RpB w' r (.slice (some ⟨w.heap.size, 0, none⟩) N N) (.slice none 0 0) (.slice none 0 0) (.slice none 0 0) fr z z ∧ Blk w' w.heap.size 50 (cellsB (nought (N * 512))).toArray ∧ w.heap.size < r ∧ Fr (fun _ => False) w w' := by
 obtain ⟨W1, hW1⟩ : ∃ W1, W1 = w.alloc (.cells (cellsB (nought (N * 512))).toArray 50) := ⟨_, rfl⟩
 have hmk := make_pages w N (by omega)
 rw [← hW1] at hmk
 have hbd := build_ref6 w.heap.size N fr z
 have f1 : Fr (fun _ => False) w W1 := by rw [hW1]; exact (Fr.refl _ w).alloc _
 have hb1 : Blk W1 w.heap.size 50 (cellsB (nought (N * 512))).toArray := by rw [hW1]; exact Blk.new w _ _
 have hs : w.heap.size < W1.heap.size := hb1.lt
 have H1 := Lib.hid (And.intro f1 (And.intro hb1 hs))
 clear hW1 f1 hb1 hs
 go_enter Tryz.func35, Tryz.ntmps35
 go_wp2_with fail
 go_ret
 have fa : Fr (fun _ => False) W1 (W1.alloc (.cells #[.slice (some ⟨w.heap.size, 0, none⟩) N N, .slice none 0 0, .slice none 0 0, .slice none 0 0, .int .i64 fr, .int .i64 z, .int .i64 z] 79)) := (Fr.refl _ W1).alloc _
 exact ⟨W1.heap.size, rfl, Blk.new W1 _ _, H1.out.2.1.keep fa (fun q => q), H1.out.2.2, H1.out.1.trans fa (fun _ _ q => q)⟩
end Go.Proofs.YtcnlgbjkjlbmbaaGreat

