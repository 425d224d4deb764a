/- slices.Clone of sectors; the disk's map laid anew, key by key. -/
import Derived.Test.YtiobmejnamdneaaLfp
namespace Go.Proofs.Ytiobmejnamdneaa
open Go.RowKit Go.Maps

theorem zero_bytes (z : Array Value) (k N : Nat) (hz : z = (cellsB (nought k)).toArray) (hk : 0 < k) : Builtin.zeroCells z N = (cellsB (nought (N * k))).toArray := by
  subst hz
  apply Array.ext
  · simp [Builtin.zeroCells, cellsB, nought]
  · intro i h1 h2
    have h3 : i % k < k := Nat.mod_lt _ hk
    simp [Builtin.zeroCells, cellsB, nought, h3]
theorem slice_of_none (w : World) : (Instr.buildSlice 38 0 #[]).run Try.prog w = .ok (.slice (some ⟨w.heap.size, 0, none⟩) 0 0) (w.alloc (.cells #[] 31)) := by
  unfold Instr.buildSlice
  obtain ⟨i0, hi, hz0, hz1, hz2⟩ := info_parts infoSec
  simp [run_underlying Try.underlying38, Instr.fill, sizeOf, typeInfo, hi, newRow]
  congr 2
  exact Array.eq_empty_of_size_eq_zero (by rw [Array.size_map, Array.size_range])
section
variable {ops : Array Oper} {o : Oper} {a : Act} {Q : Exit → Act → World → Prop}
theorem wpList_build_none {rest : List Oper} {w : World} (hg : o.guard = none) (hop : o.op = .buildSlice 38 0 #[])
    (hK : wpList Try.prog ops Q rest (a.put o.dst (.slice (some ⟨w.heap.size, 0, none⟩) 0 0)) (w.alloc (.cells #[] 31))) : wpList Try.prog ops Q (o :: rest) a w := by
  refine wpList_plain hg fun K hK' => ?_
  have hr := slice_of_none w
  unfold Oper.wp execOp
  simp only [hop]
  simp [hr, Result.andThen]
  exact hK' _ _ hK
/-- An append of sectors to an empty row makes a new one, with noughts behind. -/
theorem wpList_append_new {rest : List Oper} {w : World} (hg : o.guard = none) (s x : Operand) (hop : o.op = Op.call { callee := Callee.builtin Builtin.append, args := #[s, x], argTypes := #[38, 38] })
    {B b off n c : Nat} {l : List UInt8} (hl : l.length = n * 128) (hn : 0 < n) (hN : n ≤ 1000000) (hr : w.rangeAt b off (cellsB l)) (hs : a.eval s = .slice (some ⟨B, 0, none⟩) 0 0) (hx : a.eval x = .slice (some ⟨b, off, none⟩) n c)
    (hK : ∀ c', n ≤ c' → c' ≤ maxLen → wpList Try.prog ops Q rest (a.put o.dst (.slice (some ⟨w.heap.size, 0, none⟩) n c')) (w.drew.alloc (.cells (cellsB (l ++ nought ((c' - n) * 128))).toArray 31))) : wpList Try.prog ops Q (o :: rest) a w := by
  refine wpList_plain hg fun K hK' => ?_
  obtain ⟨i0, hi, hz0, hz1, hz2⟩ := info_parts infoSec
  have hrun := run_append_grow (P := Try.prog) w 38 o.type 31 i0 (av (nought 128)) Try.underlying38 hi hz0 ⟨B, 0, none⟩ 0 0 [] (by simp) (fun j v hj => by simp at hj) ⟨b, off, none⟩ n c (cellsB l)
    (by rw [cellsB_len, hz1, hl]) (fun j v hj => by rw [Addr.add_mid]; exact hr j v hj) (by omega) (by omega) (growslice_fits (by omega) (by rw [hz2]; omega))
  have h1 := grownCap_ge w (0 + n) 0 31
  have h2 : grownCap w (0 + n) 0 31 ≤ maxLen := grownCap_le_maxLen w (0 + n) 0 31 (by simp only [maxLen]; omega)
  rw [zero_bytes (av (nought 128)).cells 128 _ rfl (by omega)] at hrun
  simp only [Nat.zero_add] at hrun h1 h2
  have hc : (([] : List Value).toArray ++ (cellsB l).toArray ++ (cellsB (nought ((grownCap w n 0 31 - n) * 128))).toArray) = (cellsB (l ++ nought ((grownCap w n 0 31 - n) * 128))).toArray := by
    rw [cellsB_app]; simp
  rw [hc] at hrun
  have hk := hK _ h1 h2
  generalize grownCap w n 0 31 = gc at *
  unfold Oper.wp
  simp [execOp, hop, resolve, invoke, builtin, hs, hx, hrun, Result.andThen]
  exact hK' _ _ hk
end
/-- What Clone tells of sectors. -/
def Cloned (w w' : World) (v : Value) (n : Nat) (l : List UInt8) : Prop := ∃ b c', v = .slice (some ⟨b, 0, none⟩) n c' ∧ w.heap.size ≤ b ∧ n ≤ c' ∧ c' ≤ maxLen ∧ Blk w' b 31 (cellsB (l ++ nought ((c' - n) * 128))).toArray
set_option maxRecDepth 100000 in
theorem clone_any {w : World} {b off n c : Nat} {l : List UInt8} (hl : l.length = n * 128) (hn : 0 < n) (hN : n ≤ 1000000) (hr : w.rangeAt b off (cellsB l)) :
    Calls Try.prog 28 #[.slice (some ⟨b, off, none⟩) n c] w fun e w' => ∃ v, e = .returned v ∧ Cloned w w' v n l ∧ Fr (fun _ => False) w w' := by
  have f1 := (Fr.refl (fun _ => False) w).alloc (.cells #[] 31)
  have hs1 : (w.alloc (.cells #[] 31)).heap.size = w.heap.size + 1 := by
    show (w.heap.push _).size = w.heap.size + 1
    simp
  have HR : Hid ((w.alloc (.cells #[] 31)).rangeAt b off (cellsB l)) := Lib.hid fun j v hv => (f1.cell (World.block_lt_of_cell? w _ (hr j v hv)) (fun q => q)).trans (hr j v hv)
  have HL := Lib.hid (And.intro hl (And.intro f1 hs1))
  clear hr hl f1 hs1
  have he : ∀ w : World, (binOp .eql 38 (.slice (some ⟨b, off, none⟩) n c) (.slice none 0 0)).run Try.prog w = .ok (.bool false) w := fun _ => rfl
  go_enter Try.func28, Try.ntmps28
  go_wp2_with (first
    | (refine wpList_build_none rfl rfl ?_)
    | (refine wpList_append_new rfl (.tmp 5) (.tmp 6) rfl HL.out.1 hn hN HR.out rfl rfl ?_; intro c' hc1 hc2))
  have hb := Blk.new (w.alloc (.cells #[] 31)).drew 31 (cellsB (l ++ nought ((c' - n) * 128))).toArray
  have e : (w.alloc (.cells #[] 31)).drew.heap.size = w.heap.size + 1 := HL.out.2.2
  rw [e] at hb
  have HB := Lib.hid (And.intro hb (And.intro hc1 hc2))
  have hfa := (HL.out.2.1.drew).alloc (.cells (cellsB (l ++ nought ((c' - n) * 128))).toArray 31)
  have HF := Lib.hid hfa
  clear hb hc1 hc2 hfa
  go_ret
  exact ⟨_, rfl, ⟨w.heap.size + 1, c', by rw [← e]; rfl, by omega, HB.out.2.1, HB.out.2.2, HB.out.1⟩, HF.out⟩
theorem Cloned.own_ge {w w' : World} {v : Value} {n : Nat} {l : List UInt8} (h : Cloned w w' v n l) {b : Nat} (hb : v.ownBlock = some b) : w.heap.size ≤ b := by
  obtain ⟨b', c2, rfl, h1, _⟩ := h
  have e : b' = b := by simpa [Value.ownBlock] using hb
  rw [← e]
  exact h1
theorem Cloned.row {w w' : World} {v : Value} {n : Nat} {l : List UInt8} (h : Cloned w w' v n l) (hl : l.length = n * 128) : w'.ownsRow 0 31 128 v n (cellsB l) := by
  obtain ⟨b, c', rfl, _, h1, h2, h3⟩ := h
  refine ⟨by rw [cellsB_len, hl], .inr ⟨b, c', _, rfl, Nat.zero_le _, h3, h1, h2, ?_, ?_⟩⟩
  · simp [cellsB_len, nought_len, hl]
    omega
  · rw [cellsB_app]
    simp only [List.toList_toArray]
    rw [← hl, ← cellsB_len l]
    exact List.take_left
end Go.Proofs.Ytiobmejnamdneaa
