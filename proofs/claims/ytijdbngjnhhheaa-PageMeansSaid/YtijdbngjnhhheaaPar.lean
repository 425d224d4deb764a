/- Pages as arrays, by value (Dar of Disk's seat, for pages). -/
import Derived.Test.YtijdbngjnhhheaaCut
import Derived.Test.YtijdbngjnhhheaaPth
import Derived.Test.YtijdbngjnhhheaaRows
import Derived.Deep.MidRow
import Derived.BigQuiet
import Derived.Deep.QuietTactic
namespace Go.Proofs.Ytijdbngjnhhheaa
open Go.RowKit

/-- An array of bytes, as a value; a new one. -/
abbrev av (l : List UInt8) : Value := .agg (cellsB l).toArray
set_option maxRecDepth 100000 in
theorem zeroPage (w : World) : (zeroValue 26).run Try.prog w = .ok (av (nought 512)) w := by
  have h : (Try.prog.info? 26).map (·.zero) = some (some (av (nought 512))) := by kernel_rfl
  cases hi : Try.prog.info? 26 with
  | none => simp [hi] at h
  | some i =>
    have hz : i.zero = some (av (nought 512)) := by simpa [hi] using h
    simp [zeroValue, typeInfo, hi, hz, Sem.run_bind]

set_option maxRecDepth 100000 in
theorem alloc_of_zero {t : TypeId} {l : List UInt8} (h : ∀ w, (zeroValue t).run Try.prog w = .ok (av l) w) (w : World) :
    (Instr.alloc t true (.tuple #[])).run Try.prog w = .ok (.pointer (some ⟨w.heap.size, 0, none⟩)) (w.alloc (.cells (cellsB l).toArray t)) := by
  unfold Instr.alloc
  rw [Sem.run_bind, h]
  simp only [Result.andThen_ok]
  go_simp

set_option maxRecDepth 100000 in
theorem infoPage : (Try.prog.info? 26).map (·.size) = some 512 := by kernel_rfl


/-! Walking over whole arrays. -/
section
variable {ops : Array Oper} {rest : List Oper} {o : Oper} {a : Act} {w : World} {Q : Exit → Act → World → Prop}
set_option maxRecDepth 100000 in
theorem wpList_zero (hg : o.guard = none) (t : TypeId) (ho : o.op = .alloc t) {l : List UInt8} (h : ∀ w, (zeroValue t).run Try.prog w = .ok (av l) w)
    (hK : wpList Try.prog ops Q rest (a.put o.dst (.pointer (some ⟨w.heap.size, 0, none⟩))) (w.alloc (.cells (cellsB l).toArray t))) : wpList Try.prog ops Q (o :: rest) a w := by
  refine wpList_plain hg fun K hK' => ?_
  have hr := alloc_of_zero h w
  unfold Oper.wp execOp
  simp only [ho, Sem.run_bind, hr, Result.andThen_ok, Sem.run_pure, Oper.upon]
  exact hK' _ _ hK
set_option maxRecDepth 100000 in
theorem wpList_put (hg : o.guard = none) (t : TypeId) (x : Operand) (ho : o.op = .box t x) (cs : Array Value) (hx : a.eval x = .agg cs)
    (hK : wpList Try.prog ops Q rest (a.put o.dst (.pointer (some ⟨w.heap.size, 0, none⟩))) (w.alloc (.cells cs t))) : wpList Try.prog ops Q (o :: rest) a w := by
  refine wpList_plain hg fun K hK' => ?_
  have hr : (Instr.box t (.agg cs)).run Try.prog w = .ok (.pointer (some ⟨w.heap.size, 0, none⟩)) (w.alloc (.cells cs t)) := by go_simp
  unfold Oper.wp execOp
  simp only [ho, hx, Sem.run_bind, hr, Result.andThen_ok, Sem.run_pure, Oper.upon]
  exact hK' _ _ hK
end

set_option maxRecDepth 100000 in
/-- A part of a block of bytes that is known whole. -/
theorem Blk.range {w : World} {b : Nat} {t : TypeId} {l : List UInt8} (h : Blk w b t (cellsB l).toArray) (o n : Nat) : w.rangeAt b o (cellsB ((l.drop o).take n)) := fun j v hv => by
  rw [cellsB, List.getElem?_map] at hv
  obtain ⟨c, hc, rfl⟩ := Option.map_eq_some_iff.1 hv
  rw [List.getElem?_take] at hc
  split at hc
  · rw [List.getElem?_drop] at hc
    rw [h.cell]
    simp [cellsB, hc]
  · cases hc
set_option maxRecDepth 100000 in
theorem Blk.there {w : World} {b : Nat} {t : TypeId} {cs : Array Value} (h : Blk w b t cs) {o n : Nat} (hn : o + n ≤ cs.size) : w.there b o n := fun j hj => by
  refine ⟨?_, h.frozen _⟩
  rw [h.cell, Array.getElem?_eq_getElem (by omega)]
  rfl
set_option maxRecDepth 100000 in
theorem Blk.over {b : Nat} {t : TypeId} : ∀ {m l : List UInt8} {o : Nat} {w : World} (h : Blk w b t (cellsB l).toArray) (hn : o + m.length ≤ l.length), Blk (w.setCells b o (cellsB m)) b t (cellsB (patch l o m)).toArray
  | [], l, o, w, h, hn => by
    have e : patch l o [] = l := by simp [patch]
    rw [e]; exact h
  | c :: m, l, o, w, h, hn => by
    simp only [List.length_cons] at hn
    have h1 : Blk (w.setCell ⟨b, o, none⟩ (.int .u8 (c.toNat : Int))) b t (cellsB (l.set o c)).toArray := by
      have := h.set_ o (.int .u8 (c.toNat : Int))
      simpa [cellsB, List.map_set] using this
    have h2 := Blk.over (m := m) (l := l.set o c) (o := o + 1) h1 (by simp; omega)
    have e : patch (l.set o c) (o + 1) m = patch l o (c :: m) := by
      unfold patch
      have h3 : (l.set o c).take (o + 1) = l.take o ++ [c] := by
        rw [List.take_set, List.take_succ_eq_append_getElem (by omega)]
        have h4 : (l.take o).length = o := by rw [List.length_take]; omega
        rw [List.set_append_right _ _ (by omega), h4, Nat.sub_self]
        rfl
      rw [h3, List.drop_set_of_lt (by omega)]
      simp [Nat.add_assoc, Nat.add_comm 1]
    rw [← e]
    exact h2
set_option maxRecDepth 100000 in
theorem Fr.setCells {F : Nat → Prop} {a : World} {b : Nat} (hb : F b ∨ a.heap.size ≤ b) : ∀ {vs : List Value} {o : Nat} {w : World}, Fr F a w → Fr F a (w.setCells b o vs)
  | [], _, _, h => h
  | u :: vs, o, _, h => Fr.setCells (vs := vs) hb (h.setCell (p := ⟨b, o, none⟩) hb u)

end Go.Proofs.Ytijdbngjnhhheaa
