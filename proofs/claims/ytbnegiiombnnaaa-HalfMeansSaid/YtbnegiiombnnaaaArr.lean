/- Arrays of bytes, by value: sectors, halves, pieces. -/
import Derived.Test.YtbnegiiombnnaaaCut
import Derived.Test.YtbnegiiombnnaaaRows
import Derived.Deep.MidRow
import Derived.BigQuiet
import Derived.Deep.QuietTactic
namespace Go.Proofs.Ytbnegiiombnnaaa
open Go.RowKit

/-- An array of bytes, as a value; a new one. -/
abbrev av (l : List UInt8) : Value := .agg (cellsB l).toArray
def nought (n : Nat) : List UInt8 := List.replicate n 0
theorem nought_len (n : Nat) : (nought n).length = n := by simp [nought]

set_option maxRecDepth 100000 in
theorem zeroHalf (w : World) : (zeroValue 61).run Try.prog w = .ok (av (nought 64)) w := by
  rw [Try.zeroValue61]; rfl
set_option maxRecDepth 100000 in
theorem zeroPiece (w : World) : (zeroValue 59).run Try.prog w = .ok (av (nought 48)) w := by
  rw [Try.zeroValue59]; rfl
set_option maxRecDepth 100000 in
theorem zeroSector (w : World) : (zeroValue 37).run Try.prog w = .ok (av (nought 128)) w := by
  have h : (Try.prog.info? 37).map (·.zero) = some (some (av (nought 128))) := by kernel_rfl
  cases hi : Try.prog.info? 37 with
  | none => simp [hi] at h
  | some i =>
    have hz : i.zero = some (av (nought 128)) := by simpa [hi] using h
    simp [zeroValue, typeInfo, hi, hz, Sem.run_bind]

theorem alloc_of_zero {t : TypeId} {l : List UInt8} (h : ∀ w, (zeroValue t).run Try.prog w = .ok (av l) w) (w : World) :
    (Instr.alloc t true (.tuple #[])).run Try.prog w = .ok (.pointer (some ⟨w.heap.size, 0, none⟩)) (w.alloc (.cells (cellsB l).toArray t)) := by
  unfold Instr.alloc
  rw [Sem.run_bind, h]
  simp only [Result.andThen_ok]
  go_simp

theorem infoHalf : (Try.prog.info? 61).map (·.size) = some 64 := by kernel_rfl
theorem infoPiece : (Try.prog.info? 59).map (·.size) = some 48 := by kernel_rfl
theorem infoSector : (Try.prog.info? 37).map (·.size) = some 128 := by kernel_rfl


/-! Walking over whole arrays. -/
section
variable {ops : Array Oper} {rest : List Oper} {o : Oper} {a : Act} {w : World} {Q : Exit → Act → World → Prop}
theorem wpList_zero (hg : o.guard = none) (t : TypeId) (ho : o.op = .alloc t) {l : List UInt8} (h : ∀ w, (zeroValue t).run Try.prog w = .ok (av l) w)
    (hK : wpList Try.prog ops Q rest (a.put o.dst (.pointer (some ⟨w.heap.size, 0, none⟩))) (w.alloc (.cells (cellsB l).toArray t))) : wpList Try.prog ops Q (o :: rest) a w := by
  refine wpList_plain hg fun K hK' => ?_
  have hr := alloc_of_zero h w
  unfold Oper.wp execOp
  simp only [ho, Sem.run_bind, hr, Result.andThen_ok, Sem.run_pure, Oper.upon]
  exact hK' _ _ hK
theorem wpList_put (hg : o.guard = none) (t : TypeId) (x : Operand) (ho : o.op = .box t x) (cs : Array Value) (hx : a.eval x = .agg cs)
    (hK : wpList Try.prog ops Q rest (a.put o.dst (.pointer (some ⟨w.heap.size, 0, none⟩))) (w.alloc (.cells cs t))) : wpList Try.prog ops Q (o :: rest) a w := by
  refine wpList_plain hg fun K hK' => ?_
  have hr : (Instr.box t (.agg cs)).run Try.prog w = .ok (.pointer (some ⟨w.heap.size, 0, none⟩)) (w.alloc (.cells cs t)) := by go_simp
  unfold Oper.wp execOp
  simp only [ho, hx, Sem.run_bind, hr, Result.andThen_ok, Sem.run_pure, Oper.upon]
  exact hK' _ _ hK
end

/-- A part of a block of bytes that is known whole. -/
theorem Blk.range {w : World} {b : Nat} {t : TypeId} {l : List UInt8} (h : Blk w b t (cellsB l).toArray) (o n : Nat) : w.rangeAt b o (cellsB ((l.drop o).take n)) := fun j v hv => by
  rw [cellsB, List.getElem?_map] at hv
  obtain ⟨c, hc, rfl⟩ := Option.map_eq_some_iff.1 hv
  rw [List.getElem?_take] at hc
  split at hc
  · rw [List.getElem?_drop] at hc
    rw [h.cell]
    simp [cellsB, hc]
  · cases hc
theorem Blk.there {w : World} {b : Nat} {t : TypeId} {cs : Array Value} (h : Blk w b t cs) {o n : Nat} (hn : o + n ≤ cs.size) : w.there b o n := fun j hj => by
  refine ⟨?_, h.frozen _⟩
  rw [h.cell, Array.getElem?_eq_getElem (by omega)]
  rfl
/-- Bytes with others laid over them. -/
def patch (l : List UInt8) (o : Nat) (m : List UInt8) : List UInt8 := l.take o ++ (m ++ l.drop (o + m.length))
theorem patch_len {l m : List UInt8} {o : Nat} (h : o + m.length ≤ l.length) : (patch l o m).length = l.length := by
  simp [patch]; omega
theorem patch_all {l m : List UInt8} (h : l.length = m.length) : patch l 0 m = m := by
  simp [patch, ← h]
theorem Blk.over {b : Nat} {t : TypeId} : ∀ {m l : List UInt8} {o : Nat} {w : World} (h : Blk w b t (cellsB l).toArray) (hn : o + m.length ≤ l.length), Blk (w.setCells b o (cellsB m)) b t (cellsB (patch l o m)).toArray
  | [], l, o, w, h, hn => by
    have e : patch l o [] = l := by simp [patch]
    rw [e]; exact h
  | c :: m, l, o, w, h, hn => by
    simp only [List.length_cons] at hn
    have h1 : Blk (w.setCell ⟨b, o, none⟩ (.int .u8 (c.toNat : Int))) b t (cellsB (l.set o c)).toArray := by
      have := h.set_ o (.int .u8 (c.toNat : Int))
      simpa [cellsB, List.map_set] using this
    have h2 := Blk.over (m := m) (l := l.set o c) (o := o + 1) h1 (by simp; omega)
    have e : patch (l.set o c) (o + 1) m = patch l o (c :: m) := by
      unfold patch
      have h3 : (l.set o c).take (o + 1) = l.take o ++ [c] := by
        rw [List.take_set, List.take_succ_eq_append_getElem (by omega)]
        have h4 : (l.take o).length = o := by rw [List.length_take]; omega
        rw [List.set_append_right _ _ (by omega), h4, Nat.sub_self]
        rfl
      rw [h3, List.drop_set_of_lt (by omega)]
      simp [Nat.add_assoc, Nat.add_comm 1]
    rw [← e]
    exact h2
theorem Fr.setCells {F : Nat → Prop} {a : World} {b : Nat} (hb : F b ∨ a.heap.size ≤ b) : ∀ {vs : List Value} {o : Nat} {w : World}, Fr F a w → Fr F a (w.setCells b o vs)
  | [], _, _, h => h
  | u :: vs, o, _, h => Fr.setCells (vs := vs) hb (h.setCell (p := ⟨b, o, none⟩) hb u)

theorem at_half (A : Option Addr) (w : World) : (Instr.arrayAt 61 (.slice A 64 64)).run Try.prog w = .ok (.pointer A) w := by
  simp [Instr.arrayAt, run_underlying Try.underlying61]
theorem at_piece (A : Option Addr) (w : World) : (Instr.arrayAt 59 (.slice A 48 48)).run Try.prog w = .ok (.pointer A) w := by
  simp [Instr.arrayAt, run_underlying Try.underlying59]

set_option maxRecDepth 100000 in
theorem cut_any (w : World) (s : List UInt8) (hs : s.length = 128) (k : Nat) (hk : k < 2) :
    Calls Try.prog 33 #[av s, .int .i64 k] w fun e w' => e = .returned (av ((s.drop (64 * k)).take 64)) ∧ Fr (fun _ => False) w w' := by
  have hk2 : k = 0 ∨ k = 1 := by omega
  have hB : ∀ X, Blk ((w.alloc (.cells (cellsB s).toArray 37)).alloc X) w.heap.size 37 (cellsB s).toArray := fun X =>
    (Blk.new w _ _).keep (F := fun _ => False) ((Fr.refl _ _).alloc X) (fun h => h)
  have HR := Lib.hid fun X => (hB X).range 0 64
  have HR2 := Lib.hid fun X => (hB X).range 64 64
  have hat := at_half
  have hN : Blk ((w.alloc (.cells (cellsB s).toArray 37)).alloc (.cells (cellsB (nought 64)).toArray 61)) (w.heap.size + 1) 61 (cellsB (nought 64)).toArray := by
    have := Blk.new (w.alloc (.cells (cellsB s).toArray 37)) 61 (cellsB (nought 64)).toArray
    simpa using this
  have HN := Lib.hid hN
  have hF : Fr (fun _ => False) w ((w.alloc (.cells (cellsB s).toArray 37)).alloc (.cells (cellsB (nought 64)).toArray 61)) := ((Fr.refl _ w).alloc _).alloc _
  have HF := Lib.hid hF
  clear hB hN hF
  rcases hk2 with rfl | rfl
  · have hl : ((s.drop 0).take 64).length = 64 := by simp [hs]
    obtain ⟨m, hm⟩ : ∃ m, m = (s.drop 0).take 64 := ⟨_, rfl⟩
    simp only [Nat.mul_zero]
    rw [← hm] at HR hl ⊢
    have HM := Lib.hid (And.intro hm hl)
    clear hm hl
    go_enter Try.func33, Try.ntmps33
    go_wp2_with (first
      | (refine wpList_zero rfl 61 rfl zeroHalf ?_)
      | (refine wpList_put rfl 37 _ rfl _ rfl ?_)
      | (refine wpList_load_mid rfl 61 _ rfl w.heap.size 0 rfl (cellsB m) _ (HR.out _) Try.underlying61 rfl (by rw [infoHalf, cellsB_len, HM.out.2]) ?_)
      | (refine wpList_store_mid rfl 61 _ _ rfl (w.heap.size + 1) 0 (cellsB m).toArray rfl rfl (HN.out.there (by simp [cellsB_len, nought_len, HM.out.2])) (by rw [infoHalf]; simp [cellsB_len, HM.out.2]) (all_oneCell_toArray (cellsB_one _)) ?_))
    refine bodyPost_ret (results_cell_row rfl _ _ (w.heap.size + 1) 61 (cellsB m).toArray (0, 0) _ rfl ?_ Try.underlying61 rfl (by rw [infoHalf]; simp [cellsB_len, HM.out.2])) rfl ?_
    · have := HN.out.over (o := 0) (m := m) (by rw [nought_len, HM.out.2]; omega)
      rw [patch_all (by rw [nought_len, HM.out.2])] at this
      exact this
    · exact ⟨rfl, Fr.setCells (.inr (by omega)) HF.out⟩
  · have hl : ((s.drop 64).take 64).length = 64 := by simp [hs]
    obtain ⟨m, hm⟩ : ∃ m, m = (s.drop 64).take 64 := ⟨_, rfl⟩
    simp only [Nat.mul_one]
    rw [← hm] at HR2 hl ⊢
    have HM := Lib.hid (And.intro hm hl)
    clear hm hl
    go_enter Try.func33, Try.ntmps33
    go_wp2_with (first
      | (refine wpList_zero rfl 61 rfl zeroHalf ?_)
      | (refine wpList_put rfl 37 _ rfl _ rfl ?_)
      | (refine wpList_load_mid rfl 61 _ rfl w.heap.size 64 rfl (cellsB m) _ (HR2.out _) Try.underlying61 rfl (by rw [infoHalf, cellsB_len, HM.out.2]) ?_)
      | (refine wpList_store_mid rfl 61 _ _ rfl (w.heap.size + 1) 0 (cellsB m).toArray rfl rfl (HN.out.there (by simp [cellsB_len, nought_len, HM.out.2])) (by rw [infoHalf]; simp [cellsB_len, HM.out.2]) (all_oneCell_toArray (cellsB_one _)) ?_))
    refine bodyPost_ret (results_cell_row rfl _ _ (w.heap.size + 1) 61 (cellsB m).toArray (0, 0) _ rfl ?_ Try.underlying61 rfl (by rw [infoHalf]; simp [cellsB_len, HM.out.2])) rfl ?_
    · have := HN.out.over (o := 0) (m := m) (by rw [nought_len, HM.out.2]; omega)
      rw [patch_all (by rw [nought_len, HM.out.2])] at this
      exact this
    · exact ⟨rfl, Fr.setCells (.inr (by omega)) HF.out⟩
end Go.Proofs.Ytbnegiiombnnaaa
