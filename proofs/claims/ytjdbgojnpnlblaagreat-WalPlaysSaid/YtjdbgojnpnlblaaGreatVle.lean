/- Arguments that came in, opened (Wal's seats): numbers, lists of them, bytes, lists of leaves. -/
import Derived.Test.YtjdbgojnpnlblaaGreatVrh
import Derived.Deep.Slices
import Derived.Lib.SmallJoins
import Derived.OpenShut
namespace Go.Proofs.YtjdbgojnpnlblaaGreat
open Go.ChangeShapes Go.WideShapes Go.ChangeAt Go.RowKit

theorem cells3 : Tryz.prog.cellsOf 3 = 1 := by kernel_rfl
theorem cells5 : Tryz.prog.cellsOf 5 = 1 := by kernel_rfl
theorem cellsBs : Tryz.prog.cellsOf 68 = 1 := by kernel_rfl
theorem cellsLeaf : Tryz.prog.cellsOf 70 = 2 := by kernel_rfl
theorem undLeaf : Tryz.prog.underlying 70 = some (.struct #[⟨"Number", 3, 0, false, "", "", 0⟩, ⟨"Bytes", 68, 1, false, "", "", 8⟩]) := by kernel_rfl
section
variable {H : Type} {enc : TypeId × Value → H} {w : World}
theorem u8_of_wf {a : Int} (h : (Lit.int .u8 a).wf = true) : 0 ≤ a ∧ a ≤ 255 := by
  simpa [Lit.wf, IntKind.min, IntKind.max, IntKind.signed, IntKind.bits] using h

theorem list_of {α : Type} {Q : Nat → α → Prop} : ∀ m, (∀ i, i < m → ∃ p, Q i p) → ∃ xs : List α, xs.length = m ∧ ∀ i x, xs[i]? = some x → Q i x
  | 0, _ => ⟨[], rfl, fun i x h => by simp at h⟩
  | m + 1, h => by
    obtain ⟨xs, hl, hx⟩ := list_of m (fun i hi => h i (by omega))
    obtain ⟨p, hp⟩ := h m (by omega)
    refine ⟨xs ++ [p], by simp [hl], fun i x hix => ?_⟩
    rw [List.getElem?_append] at hix
    split at hix
    · exact hx i x hix
    · rename_i hge
      have : i - xs.length = 0 := by
        rcases Nat.eq_zero_or_pos (i - xs.length) with e | e
        · exact e
        · rw [List.getElem?_eq_none (by simp; omega)] at hix; cases hix
      rw [this] at hix
      have e : i = m := by omega
      subst e
      simp at hix
      rw [← hix]
      exact hp
theorem add_plain (b off n : Nat) : (⟨b, off, none⟩ : Addr).add n = ⟨b, off + n, none⟩ := by
  unfold Addr.add
  split <;> simp_all

theorem i64_of_wf {a : Int} (h : (Lit.int .i64 a).wf = true) : -9223372036854775808 ≤ a ∧ a ≤ 9223372036854775807 := by
  simpa [Lit.wf, IntKind.min, IntKind.max, IntKind.signed, IntKind.bits] using h

/-- A cell that holds bytes. -/
theorem open_bytes {fuel : Nat} {cs : List Value} {x : DataW H × List MemPlace} (h : DataW.trod enc Tryz.prog w 0 (fun _ => true) true fuel 68 cs = some x) :
    ∃ A n c l, cs = [.slice A n c] ∧ Rd w A n l ∧ (A = none → c = 0) ∧ n ≤ c ∧ c ≤ maxLen ∧ (0 < n → ∀ ad, A = some ad → ad.block < w.heap.size) := by
  rcases open_ints Tryz.underlying68 Tryz.underlying5 cells5 h with ⟨rfl, _⟩ | ⟨a, len, cap, zs, rfl, _, hl, hc, hz, _, hcell, hwf⟩
  · exact ⟨none, 0, 0, [], rfl, Rd.nil _ _, fun _ => rfl, Nat.le_refl _, Nat.zero_le _, fun h => absurd h (by omega)⟩
  · simp only [if_true] at hz
    have hr : Rd w (some a) len ((zs.take len).map fun z => UInt8.ofNat z.toNat) := by
      refine ⟨by rw [List.length_map, List.length_take]; omega, fun _ => ⟨a, rfl, fun j c hj => ?_⟩⟩
      rw [List.getElem?_map, Option.map_eq_some_iff] at hj
      obtain ⟨z, hz1, rfl⟩ := hj
      rw [List.getElem?_take] at hz1
      split at hz1
      · rename_i hjl
        have hjz : j < zs.length := by omega
        have hg := hcell j hjz
        have hzz : zs.getD j 0 = z := by rw [List.getD_eq_getElem?_getD, hz1]; rfl
        rw [hzz] at hg
        have hw := u8_of_wf (hwf z (List.mem_of_getElem? hz1))
        rw [hg, UInt8.toNat_ofNat']
        congr 2
        omega
      · cases hz1
    refine ⟨some a, len, cap, _, rfl, hr, (fun e => by cases e), hl, hc, fun h0 ad e => ?_⟩
    obtain ⟨ad', e', hlt⟩ := hr.lt h0
    rw [e] at e'
    injection e' with e'
    rw [e']
    exact hlt

theorem open_ints_cell {fuel : Nat} {cs : List Value} {x : DataW H × List MemPlace} (hf : DataW.trod enc Tryz.prog w 0 (fun _ => true) true fuel 48 cs = some x) : ∃ v picks, cs = [v] ∧ IntsAt w v picks ∧ (∀ z ∈ picks, -9223372036854775808 ≤ z ∧ z ≤ 9223372036854775807) ∧ (∀ b, v.ownBlock = some b → 0 < picks.length → b < w.heap.size) := by
  rcases open_ints Tryz.underlying48 Tryz.underlying3 cells3 hf with ⟨rfl, _⟩ | ⟨a, len0, cap0, zs, rfl, _, hl, hc, hz, _, hcell, hwf⟩
  · exact ⟨_, [], rfl, ⟨none, 0, rfl, Nat.zero_le _, fun q => by simp at q⟩, fun z hz => by simp at hz, fun b hb q => by simp at q⟩
  · simp only [if_true] at hz
    have hlt : (zs.take len0).length = len0 := by rw [List.length_take]; omega
    have hin : ∀ z ∈ zs.take len0, -9223372036854775808 ≤ z ∧ z ≤ 9223372036854775807 := fun z hz1 => i64_of_wf (hwf z (List.mem_of_mem_take hz1))
    rcases Nat.eq_zero_or_pos len0 with rfl | hpos
    · exact ⟨_, zs.take 0, rfl, ⟨some a, cap0, by rw [hlt], by rw [hlt]; omega, fun q => by rw [hlt] at q; omega⟩, hin, fun b hb q => by rw [hlt] at q; omega⟩
    have h0 := hcell 0 (by omega)
    have e0 : a.add 0 = a := by simp [Addr.add]
    rw [e0] at h0
    have hpl := plain_addr (a := a) h0
    obtain ⟨b, off, sp⟩ := a
    obtain rfl : sp = none := by injection hpl
    refine ⟨_, zs.take len0, rfl, ⟨some ⟨b, off, none⟩, cap0, by rw [hlt], by rw [hlt]; omega, fun q => ?_⟩, hin, fun b' hb q => ?_⟩
    · refine ⟨b, off, rfl, fun i z hi => ?_⟩
      rw [List.getElem?_take] at hi
      split at hi
      · rename_i hil
        have h1 := hcell i (by omega)
        rw [add_plain] at h1
        rw [h1, List.getD_eq_getElem?_getD, hi]
        rfl
      · cases hi
    · have := World.block_lt_of_cell? w _ h0
      have hb2 : b = b' := by simpa [Value.ownBlock] using hb
      rw [← hb2]
      exact this
theorem open_picks {v : Value} {d : DataW H} {p : List MemPlace} (hval : ∃ a len cap, v = .slice a len cap) (h : DataW.Trod enc Tryz.prog w 0 (fun _ => true) true 48 v d p) : ∃ picks, IntsAt w v picks ∧ ∀ z ∈ picks, -9223372036854775808 ≤ z ∧ z ≤ 9223372036854775807 := by
  obtain ⟨a0, len0, cap0, rfl⟩ := hval
  obtain ⟨fuel, hf⟩ := h
  obtain ⟨v, picks, e, h1, h2, _⟩ := open_ints_cell hf
  have e' : v = .slice a0 len0 cap0 := by simp [Value.cells] at e; exact e.symm
  subst e'
  exact ⟨picks, h1, h2⟩
theorem open_int {v : Value} {d : DataW H} {p : List MemPlace} (hval : ∃ z, v = .int .i64 z) (h : DataW.Trod enc Tryz.prog w 0 (fun _ => true) true 3 v d p) : ∃ z, v = .int .i64 z ∧ -9223372036854775808 ≤ z ∧ z ≤ 9223372036854775807 := by
  obtain ⟨z, rfl⟩ := hval
  obtain ⟨fuel, hf⟩ := h
  obtain ⟨u, e0, _, wu⟩ := DataW.trod_int Tryz.underlying3 hf
  have e : Value.int .i64 z = .int .i64 u := by simpa [Value.cells] using e0
  injection e with _ e
  subst e
  exact ⟨z, rfl, i64_of_wf wu⟩

theorem take_one {cs : List Value} {i : Nat} {v : Value} (h : (cs.drop i).take 1 = [v]) : cs[i]? = some v := by
  have h1 : ((cs.drop i).take 1)[0]? = some v := by rw [h]; rfl
  rw [List.getElem?_take, if_pos (by omega), List.getElem?_drop] at h1
  exact h1
theorem open_leaf {b off : Nat} {fuel : Nat} {cs : List Value} {x : DataW H × List MemPlace} (hat : ∀ j, j < 2 → w.cell? ⟨b, off + j, none⟩ = cs[j]?) (h : DataW.trod enc Tryz.prog w 0 (fun _ => true) true fuel 70 cs = some x) :
    ∃ p : Leaf, w.cell? ⟨b, off, none⟩ = some (.int .i64 p.n) ∧ ∃ A c, w.cell? ⟨b, off + 1, none⟩ = some (.slice A p.b.length c) ∧ Rd w A p.b.length p.b ∧ p.b.length ≤ 9223372036854775807 := by
  obtain ⟨y0, y1, n, _, hlen, t0, t1⟩ := trod_struct2 undLeaf h
  simp only [cells3, cellsBs] at t0 t1
  obtain ⟨z0, e0, _, w0⟩ := DataW.trod_int Tryz.underlying3 t0
  obtain ⟨A, m, c, l, e1, hr, hA, hmc, hcm, hlt⟩ := open_bytes t1
  have hl := hr.len
  subst hl
  exact ⟨⟨z0, l⟩, (hat 0 (by omega)).trans (take_one e0), A, c, (hat 1 (by omega)).trans (take_one e1), hr, by simp only [maxLen] at hcm; show l.length ≤ _; omega⟩
set_option maxRecDepth 100000 in
/-- A cell that holds a list of leaves. -/
theorem open_leaves_cell {fuel : Nat} {cs : List Value} {x : DataW H × List MemPlace} (hf : DataW.trod enc Tryz.prog w 0 (fun _ => true) true fuel 56 cs = some x) : ∃ v xs, cs = [v] ∧ LvV w v xs := by
  rcases Deep.open_slice Tryz.underlying56 hf with ⟨hcs, _⟩ | ⟨a, len, cap, m, n, D, Pl, hcs, _, hl, hcm, hm, _, hi⟩
  · exact ⟨_, [], hcs, none, 0, rfl, Nat.le_refl _, Nat.zero_le _, fun q => by simp at q⟩
  · simp only [if_true] at hm
    rcases Nat.eq_zero_or_pos len with rfl | hpos
    · exact ⟨_, [], hcs, _, cap, rfl, Nat.zero_le _, hcm, fun q => by simp at q⟩
    · have hpl : a = ⟨a.block, a.off, none⟩ := by
        obtain ⟨cs', hc, ht⟩ := hi 0 (by omega)
        rw [cellsLeaf] at hc
        obtain ⟨_, hlen, hat⟩ := World.cells?_some hc
        have h0 := hat 0 (by omega)
        have e : (a.add (0 * 2)).add 0 = a := by rw [Nat.zero_mul]; simp [Addr.add]
        rw [e] at h0
        rw [List.getElem?_eq_getElem (by omega : 0 < cs'.length)] at h0
        exact plain_addr h0
      obtain ⟨b, off, sp⟩ := a
      obtain rfl : sp = none := by injection hpl
      obtain ⟨xs, hsl, hs⟩ := list_of (Q := fun i (p : Leaf) => w.cell? ⟨b, off + i * 2, none⟩ = some (.int .i64 p.n) ∧ ∃ A c, w.cell? ⟨b, off + i * 2 + 1, none⟩ = some (.slice A p.b.length c) ∧ Rd w A p.b.length p.b ∧ p.b.length ≤ 9223372036854775807) len (fun i hil => by
        obtain ⟨cs', hc, ht⟩ := hi i (by omega)
        rw [cellsLeaf] at hc
        obtain ⟨_, hlen, hat⟩ := World.cells?_some hc
        refine open_leaf (fun j hj => ?_) ht
        have := hat j hj
        rw [add_plain, add_plain] at this
        exact this)
      subst hsl
      exact ⟨_, xs, hcs, _, cap, rfl, hl, hcm, fun _ => ⟨b, off, rfl, hs⟩⟩
theorem open_leaves {v : Value} {d : DataW H} {p : List MemPlace} (hval : ∃ a len cap, v = .slice a len cap) (h : DataW.Trod enc Tryz.prog w 0 (fun _ => true) true 56 v d p) : ∃ xs, LvV w v xs := by
  obtain ⟨a0, len0, cap0, rfl⟩ := hval
  obtain ⟨fuel, hf⟩ := h
  obtain ⟨v, xs, e, h1⟩ := open_leaves_cell hf
  have e' : v = .slice a0 len0 cap0 := by simp [Value.cells] at e; exact e.symm
  subst e'
  exact ⟨xs, h1⟩
/-- Bytes that came in. -/
theorem open_bytesV {v : Value} {d : DataW H} {p : List MemPlace} (hval : ∃ a len cap, v = .slice a len cap) (h : DataW.Trod enc Tryz.prog w 0 (fun _ => true) true 68 v d p) : ∃ A n c l, v = .slice A n c ∧ Rd w A n l ∧ (A = none → c = 0) ∧ n ≤ c ∧ c ≤ maxLen ∧ (0 < n → ∀ ad, A = some ad → ad.block < w.heap.size) := by
  obtain ⟨a0, len0, cap0, rfl⟩ := hval
  obtain ⟨fuel, hf⟩ := h
  obtain ⟨A, n, c, l, e, q⟩ := open_bytes hf
  have e' : Value.slice a0 len0 cap0 = .slice A n c := by simpa [Value.cells] using e
  exact ⟨A, n, c, l, e', q⟩
end
end Go.Proofs.YtjdbgojnpnlblaaGreat
