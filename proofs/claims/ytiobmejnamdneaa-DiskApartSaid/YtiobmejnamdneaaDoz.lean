/- A list of acts that came in, with the bounds of its picks. -/
import Derived.Test.YtiobmejnamdneaaDom
namespace Go.Proofs.Ytiobmejnamdneaa
open Go.ChangeShapes Go.WideShapes Go.ChangeAt Go.RowKit

def ActZ (x : ActD) : Prop := ∀ z ∈ x.ps, -9223372036854775808 ≤ z ∧ z ≤ 9223372036854775807
section
variable {H : Type} {enc : TypeId × Value → H} {w : World}
theorem open_actz {b off : Nat} {fuel : Nat} {cs : List Value} {x : DataW H × List MemPlace} (hat : ∀ j, j < 132 → w.cell? ⟨b, off + j, none⟩ = cs[j]?) (h : DataW.trod enc Try.prog w 0 (fun _ => true) true fuel 34 cs = some x) : ∃ p : ActD, ActAt w b off p ∧ ActZ p := by
  obtain ⟨y0, y1, y2, y3, y4, n, hlen, t0, t1, t2, t3, t4⟩ := trod_struct5 undAct h
  simp only [cells3, cellsSec, cellsPk] at t0 t1 t2 t3 t4
  obtain ⟨z0, e0, _, w0⟩ := DataW.trod_int Try.underlying3 t0
  obtain ⟨z1, e1, _, w1⟩ := DataW.trod_int Try.underlying3 t1
  obtain ⟨z2, e2, _, w2⟩ := DataW.trod_int Try.underlying3 t2
  obtain ⟨s, hs, e3⟩ := open_sec t3
  obtain ⟨v, picks, e4, h1, h2, h3⟩ := open_ints_cell t4
  refine ⟨⟨z0, z1, z2, s, v, picks⟩, ⟨⟨(hat 0 (by omega)).trans (take_one e0), (hat 1 (by omega)).trans (take_one e1), (hat 2 (by omega)).trans (take_one e2), fun j u hj => ?_, (hat 131 (by omega)).trans (take_one e4), ⟨(i64_of_wf w1).1, (i64_of_wf w1).2, (i64_of_wf w2).2, hs, h1, h3⟩⟩, h2⟩⟩
  have hj1 : j < 128 := by
    have := (List.getElem?_eq_some_iff.1 hj).1
    rwa [cellsB_len, hs] at this
  rw [Nat.add_assoc, hat (3 + j) (by omega)]
  rw [← e3, List.getElem?_take, if_pos hj1, List.getElem?_drop] at hj
  exact hj
set_option maxRecDepth 100000 in
/-- A list of acts that came in. -/
theorem open_actsz {v : Value} {d : DataW H} {p : List MemPlace} (hval : ∃ a len cap, v = .slice a len cap) (h : DataW.Trod enc Try.prog w 0 (fun _ => true) true 22 v d p) : ∃ xs, ActV w v xs ∧ ∀ x ∈ xs, ActZ x := by
  obtain ⟨a0, len, cap, rfl⟩ := hval
  obtain ⟨fuel, hf⟩ := h
  rcases Deep.open_slice Try.underlying22 hf with ⟨hcs, _⟩ | ⟨a, len', cap', m, n, D, Pl, hcs, _, hl, hcm, hm, _, hi⟩
  · simp [Value.cells] at hcs
    obtain ⟨rfl, rfl, rfl⟩ := hcs
    exact ⟨[], ⟨none, 0, rfl, Nat.zero_le _, fun q => by simp at q⟩, by simp⟩
  · simp [Value.cells] at hcs
    obtain ⟨rfl, rfl, rfl⟩ := hcs
    simp only [if_true] at hm
    rcases Nat.eq_zero_or_pos len with rfl | hpos
    · exact ⟨[], ⟨_, cap, rfl, Nat.zero_le _, fun q => by simp at q⟩, by simp⟩
    · have hpl : a = ⟨a.block, a.off, none⟩ := by
        obtain ⟨cs', hc, ht⟩ := hi 0 (by omega)
        rw [cellsAct] at hc
        obtain ⟨_, hlen, hat⟩ := World.cells?_some hc
        have h0 := hat 0 (by omega)
        have e : (a.add (0 * 132)).add 0 = a := by rw [Nat.zero_mul]; simp [Addr.add]
        rw [e] at h0
        rw [List.getElem?_eq_getElem (by omega : 0 < cs'.length)] at h0
        exact plain_addr h0
      obtain ⟨b, off, sp⟩ := a
      obtain rfl : sp = none := by injection hpl
      obtain ⟨xs, hsl, hs⟩ := list_of (Q := fun i (p : ActD) => ActAt w b (off + i * 132) p ∧ ActZ p) len (fun i hil => by
        obtain ⟨cs', hc, ht⟩ := hi i (by omega)
        rw [cellsAct] at hc
        obtain ⟨_, hlen, hat⟩ := World.cells?_some hc
        refine open_actz (fun j hj => ?_) ht
        have := hat j hj
        rw [add_plain, add_plain] at this
        exact this)
      subst hsl
      exact ⟨xs, ⟨_, cap, rfl, by omega, fun _ => ⟨b, off, rfl, fun i x hi => (hs i x hi).1⟩⟩, fun x hx => by
        obtain ⟨i, hi, rfl⟩ := List.mem_iff_getElem.1 hx
        exact (hs i _ (List.getElem?_eq_getElem hi)).2⟩
end
end Go.Proofs.Ytiobmejnamdneaa
