/- Arguments that came in, opened (the seat of WalOpens): cells. -/
import Derived.Test.YtjdbgojnpnlblaaGreatVle
namespace Go.Proofs.YtjdbgojnpnlblaaGreat
open Go.ChangeShapes Go.WideShapes Go.ChangeAt Go.RowKit

/-- A cell: where, its kind, which of a row, count, since, tag, bytes, sector, torn. -/
structure CellD where
  at_ : Int
  k : Int
  i : Int
  c : Nat
  s : Nat
  tc : Nat
  tn : Int
  bA : Option Addr
  bc : Nat
  b : List UInt8
  sec : List UInt8
  torn : Bool
def cellC (x : CellD) : List Value := .int .i64 x.at_ :: .int .i64 x.k :: .int .i64 x.i :: .int .u64 (x.c : Nat) :: .int .u64 (x.s : Nat) :: .int .u64 (x.tc : Nat) :: .int .i64 x.tn :: .slice x.bA x.b.length x.bc :: (cellsB x.sec ++ [.bool x.torn])
theorem cellC_len {x : CellD} (h : x.sec.length = 128) : (cellC x).length = 137 := by simp [cellC, cellsB_len, h]
theorem cellC_one (x : CellD) : ∀ u ∈ cellC x, u.oneCell' = true := fun u hu => by
  simp only [cellC, List.mem_cons, List.mem_append, List.not_mem_nil, or_false] at hu
  rcases hu with rfl | rfl | rfl | rfl | rfl | rfl | rfl | rfl | hu | rfl
  · rfl
  · rfl
  · rfl
  · rfl
  · rfl
  · rfl
  · rfl
  · rfl
  · exact cellsB_one _ u hu
  · rfl
structure CellIn (w : World) (x : CellD) : Prop where
  c1 : x.c ≤ 18446744073709551615
  s1 : x.s ≤ 18446744073709551615
  t1 : x.tc ≤ 18446744073709551615
  sl : x.sec.length = 128
  rd : Rd w x.bA x.b.length x.b
  bl : x.b.length ≤ 9223372036854775807
theorem CellIn.new {w w' : World} {x : CellD} (h : CellIn w x) (f : Fr (fun _ => False) w w') : CellIn w' x := ⟨h.c1, h.s1, h.t1, h.sl, h.rd.keep f (fun _ _ q => q), h.bl⟩
def CellsAt (w : World) (b off : Nat) (xs : List CellD) : Prop := ∀ i x, xs[i]? = some x → w.rangeAt b (off + i * 137) (cellC x) ∧ CellIn w x
/-- A list of cells, in memory. -/
def CellV (w : World) (v : Value) (xs : List CellD) : Prop := ∃ A cap, v = .slice A xs.length cap ∧ xs.length ≤ maxLen ∧ (0 < xs.length → ∃ b off, A = some ⟨b, off, none⟩ ∧ CellsAt w b off xs)

theorem cellsCell : Tryz.prog.cellsOf 93 = 137 := by kernel_rfl
theorem cellsSec : Tryz.prog.cellsOf 45 = 128 := by kernel_rfl
theorem cellsTag : Tryz.prog.cellsOf 91 = 2 := by kernel_rfl
theorem cellsU64 : Tryz.prog.cellsOf 41 = 1 := by kernel_rfl
theorem cellsBool : Tryz.prog.cellsOf 4 = 1 := by kernel_rfl
theorem undCell : Tryz.prog.underlying 93 = some (.struct #[⟨"At", 3, 0, false, "", "", 0⟩, ⟨"Kind", 3, 1, false, "", "", 8⟩, ⟨"I", 3, 2, false, "", "", 16⟩, ⟨"Count", 41, 3, false, "", "", 24⟩, ⟨"Since", 41, 4, false, "", "", 32⟩, ⟨"Tag", 91, 5, false, "", "", 40⟩, ⟨"Bytes", 68, 7, false, "", "", 56⟩, ⟨"Sector", 45, 8, false, "", "", 80⟩, ⟨"Torn", 4, 136, false, "", "", 208⟩]) := by kernel_rfl
theorem undTag : Tryz.prog.underlying 91 = some (.struct #[⟨"Count", 41, 0, false, "", "", 0⟩, ⟨"Number", 3, 1, false, "", "", 8⟩]) := by kernel_rfl
section
variable {H : Type} {enc : TypeId × Value → H} {w : World}
theorem nat_of_wf {a : Int} (h : (Lit.int .u64 a).wf = true) : ∃ n : Nat, a = n ∧ n ≤ 18446744073709551615 := by
  have hx : 0 ≤ a ∧ a ≤ 18446744073709551615 := by simpa [Lit.wf, IntKind.min, IntKind.max, IntKind.signed, IntKind.bits] using h
  exact ⟨a.toNat, by omega, by omega⟩
theorem open_sec {fuel : Nat} {cs : List Value} {x : DataW H × List MemPlace} (h : DataW.trod enc Tryz.prog w 0 (fun _ => true) true fuel 45 cs = some x) : ∃ s : List UInt8, s.length = 128 ∧ cs = cellsB s := by
  obtain ⟨xs, m, _, _, hlen, hxl, hel⟩ := DataW.trod_array Tryz.underlying45 h
  rw [cellsSec] at hlen
  obtain ⟨s, hs, hq⟩ := list_of (Q := fun i (c : UInt8) => cs[i]? = some (.int .u8 (c.toNat : Int))) 128 (fun i hi => by
    have h1 := hel i hi
    rw [cells5, Nat.mul_one] at h1
    have hx : xs[i]? = some (xs[i]'(by omega)) := List.getElem?_eq_getElem _
    rw [hx] at h1
    have hc : (cs.drop i).take 1 = [cs[i]'(by omega)] := by
      rw [List.drop_eq_getElem_cons (by omega : i < cs.length), List.take_succ_cons, List.take_zero]
    rw [hc] at h1
    obtain ⟨z, e0, _, wz⟩ := DataW.trod_int Tryz.underlying5 h1
    have hz := u8_of_wf wz
    injection e0 with e0
    refine ⟨UInt8.ofNat z.toNat, ?_⟩
    rw [List.getElem?_eq_getElem (by omega), e0, UInt8.toNat_ofNat']
    congr 2
    omega)
  refine ⟨s, hs, ?_⟩
  apply List.ext_getElem?
  intro i
  by_cases hi : i < 128
  · have := hq i s[i] (List.getElem?_eq_getElem (by omega))
    rw [this]
    simp [cellsB, hs, hi]
  · rw [List.getElem?_eq_none (by omega), List.getElem?_eq_none (by rw [cellsB_len]; omega)]
theorem trod_struct9 {P : Program} {base : Nat} {spare : Nat → Bool} {held : Bool} {t : TypeId} {f0 f1 f2 f3 f4 f5 f6 f7 f8 : Field} {fuel : Nat} {cs : List Value} {x : DataW H × List MemPlace} (ht : P.underlying t = some (.struct #[f0, f1, f2, f3, f4, f5, f6, f7, f8])) (h : DataW.trod enc P w base spare held fuel t cs = some x) :
    ∃ y0 y1 y2 y3 y4 y5 y6 y7 y8 n, cs.length = P.cellsOf t ∧ DataW.trod enc P w base spare held n f0.type ((cs.drop f0.offset).take (P.cellsOf f0.type)) = some y0 ∧
      DataW.trod enc P w base spare held n f1.type ((cs.drop f1.offset).take (P.cellsOf f1.type)) = some y1 ∧ DataW.trod enc P w base spare held n f2.type ((cs.drop f2.offset).take (P.cellsOf f2.type)) = some y2 ∧
      DataW.trod enc P w base spare held n f3.type ((cs.drop f3.offset).take (P.cellsOf f3.type)) = some y3 ∧ DataW.trod enc P w base spare held n f4.type ((cs.drop f4.offset).take (P.cellsOf f4.type)) = some y4 ∧
      DataW.trod enc P w base spare held n f5.type ((cs.drop f5.offset).take (P.cellsOf f5.type)) = some y5 ∧ DataW.trod enc P w base spare held n f6.type ((cs.drop f6.offset).take (P.cellsOf f6.type)) = some y6 ∧
      DataW.trod enc P w base spare held n f7.type ((cs.drop f7.offset).take (P.cellsOf f7.type)) = some y7 ∧ DataW.trod enc P w base spare held n f8.type ((cs.drop f8.offset).take (P.cellsOf f8.type)) = some y8 := by
  obtain ⟨xs, n, _, rfl, hl, hlen, hf⟩ := DataW.trod_struct ht h
  match xs, hlen with
  | [y0, y1, y2, y3, y4, y5, y6, y7, y8], _ => exact ⟨y0, y1, y2, y3, y4, y5, y6, y7, y8, n, hl, by simpa using hf 0 f0 rfl, by simpa using hf 1 f1 rfl, by simpa using hf 2 f2 rfl, by simpa using hf 3 f3 rfl, by simpa using hf 4 f4 rfl, by simpa using hf 5 f5 rfl, by simpa using hf 6 f6 rfl, by simpa using hf 7 f7 rfl, by simpa using hf 8 f8 rfl⟩
theorem take_two {cs : List Value} {i : Nat} {u v : Value} (h : (cs.drop i).take 2 = [u, v]) : cs[i]? = some u ∧ cs[i + 1]? = some v := by
  have h1 : ((cs.drop i).take 2)[0]? = some u := by rw [h]; rfl
  have h2 : ((cs.drop i).take 2)[1]? = some v := by rw [h]; rfl
  rw [List.getElem?_take, if_pos (by omega), List.getElem?_drop] at h1 h2
  exact ⟨h1, h2⟩
set_option maxRecDepth 100000 in
theorem open_cell {b off : Nat} {fuel : Nat} {cs : List Value} {x : DataW H × List MemPlace} (hat : ∀ j, j < 137 → w.cell? ⟨b, off + j, none⟩ = cs[j]?) (h : DataW.trod enc Tryz.prog w 0 (fun _ => true) true fuel 93 cs = some x) : ∃ p : CellD, w.rangeAt b off (cellC p) ∧ CellIn w p := by
  obtain ⟨y0, y1, y2, y3, y4, y5, y6, y7, y8, n, hlen, t0, t1, t2, t3, t4, t5, t6, t7, t8⟩ := trod_struct9 undCell h
  simp only [cells3, cellsU64, cellsTag, cellsBs, cellsSec, cellsBool] at t0 t1 t2 t3 t4 t5 t6 t7 t8
  obtain ⟨z0, e0, _, w0⟩ := DataW.trod_int Tryz.underlying3 t0
  obtain ⟨z1, e1, _, w1⟩ := DataW.trod_int Tryz.underlying3 t1
  obtain ⟨z2, e2, _, w2⟩ := DataW.trod_int Tryz.underlying3 t2
  obtain ⟨z3, e3, _, w3⟩ := DataW.trod_int Tryz.underlying41 t3
  obtain ⟨z4, e4, _, w4⟩ := DataW.trod_int Tryz.underlying41 t4
  obtain ⟨n3, rfl, hn3⟩ := nat_of_wf w3
  obtain ⟨n4, rfl, hn4⟩ := nat_of_wf w4
  obtain ⟨q0, q1, n5, _, hl5, s0, s1⟩ := trod_struct2 undTag t5
  simp only [cells3, cellsU64, cellsTag] at s0 s1 hl5
  obtain ⟨z5, e5, _, w5⟩ := DataW.trod_int Tryz.underlying41 s0
  obtain ⟨z6, e6, _, w6⟩ := DataW.trod_int Tryz.underlying3 s1
  obtain ⟨n5', rfl, hn5⟩ := nat_of_wf w5
  have e5' := take_one e5
  have e6' := take_one e6
  rw [List.getElem?_take, if_pos (by omega), List.getElem?_drop] at e5' e6'
  obtain ⟨A, m, c, l, e7, hr, hA, hmc, hcm, hlt⟩ := open_bytes t6
  obtain ⟨s, hs, e8⟩ := open_sec t7
  obtain ⟨tn, e9, _⟩ := DataW.trod_bool Tryz.underlying4 t8
  have hl := hr.len
  subst hl
  refine ⟨⟨z0, z1, z2, n3, n4, n5', z6, A, c, l, s, tn⟩, fun j u hj => ?_, ⟨hn3, hn4, hn5, hs, hr, by simp only [maxLen] at hcm; show l.length ≤ _; omega⟩⟩
  have hj1 : j < 137 := by
    have := (List.getElem?_eq_some_iff.1 hj).1
    rwa [cellC_len hs] at this
  rw [hat j hj1, ← hj]
  match j, hj1 with
  | 0, _ => exact take_one e0
  | 1, _ => exact take_one e1
  | 2, _ => exact take_one e2
  | 3, _ => exact take_one e3
  | 4, _ => exact take_one e4
  | 5, _ => exact e5'
  | 6, _ => exact e6'
  | 7, _ => exact take_one e7
  | j + 8, hj1 =>
    show cs[j + 8]? = (cellsB s ++ [Value.bool tn])[j]?
    by_cases hj : j < 128
    · rw [List.getElem?_append_left (by rw [cellsB_len, hs]; exact hj), ← e8, List.getElem?_take, if_pos hj, List.getElem?_drop, Nat.add_comm]
    · obtain rfl : j = 128 := by omega
      rw [List.getElem?_append_right (by rw [cellsB_len, hs]; omega), cellsB_len, hs]
      exact take_one e9
set_option maxRecDepth 100000 in
/-- A list of cells that came in. -/
theorem open_cells {v : Value} {d : DataW H} {p : List MemPlace} (hval : ∃ a len cap, v = .slice a len cap) (h : DataW.Trod enc Tryz.prog w 0 (fun _ => true) true 22 v d p) : ∃ xs, CellV w v xs := by
  obtain ⟨a0, len, cap, rfl⟩ := hval
  obtain ⟨fuel, hf⟩ := h
  rcases Deep.open_slice Tryz.underlying22 hf with ⟨hcs, _⟩ | ⟨a, len', cap', m, n, D, Pl, hcs, _, hl, hcm, hm, _, hi⟩
  · simp [Value.cells] at hcs
    obtain ⟨rfl, rfl, rfl⟩ := hcs
    exact ⟨[], none, 0, rfl, Nat.zero_le _, fun q => by simp at q⟩
  · simp [Value.cells] at hcs
    obtain ⟨rfl, rfl, rfl⟩ := hcs
    simp only [if_true] at hm
    rcases Nat.eq_zero_or_pos len with rfl | hpos
    · exact ⟨[], _, cap, rfl, Nat.zero_le _, fun q => by simp at q⟩
    · have hpl : a = ⟨a.block, a.off, none⟩ := by
        obtain ⟨cs', hc, ht⟩ := hi 0 (by omega)
        rw [cellsCell] at hc
        obtain ⟨_, hlen, hat⟩ := World.cells?_some hc
        have h0 := hat 0 (by omega)
        have e : (a.add (0 * 137)).add 0 = a := by rw [Nat.zero_mul]; simp [Addr.add]
        rw [e] at h0
        rw [List.getElem?_eq_getElem (by omega : 0 < cs'.length)] at h0
        exact plain_addr h0
      obtain ⟨b, off, sp⟩ := a
      obtain rfl : sp = none := by injection hpl
      obtain ⟨xs, hsl, hs⟩ := list_of (Q := fun i (p : CellD) => w.rangeAt b (off + i * 137) (cellC p) ∧ CellIn w p) len (fun i hil => by
        obtain ⟨cs', hc, ht⟩ := hi i (by omega)
        rw [cellsCell] at hc
        obtain ⟨_, hlen, hat⟩ := World.cells?_some hc
        refine open_cell (fun j hj => ?_) ht
        have := hat j hj
        rw [add_plain, add_plain] at this
        exact this)
      subst hsl
      exact ⟨xs, _, cap, rfl, by omega, fun _ => ⟨b, off, rfl, hs⟩⟩
end
end Go.Proofs.YtjdbgojnpnlblaaGreat
