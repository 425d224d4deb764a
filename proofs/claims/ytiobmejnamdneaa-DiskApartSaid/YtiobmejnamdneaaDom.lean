/- Arguments that came in, opened (Disk's seat): sectors, lists of them, picks, acts. -/
import Derived.Test.YtiobmejnamdneaaRdm
import Derived.Deep.Slices
import Derived.Lib.SmallJoins
import Derived.OpenShut
namespace Go.Proofs.Ytiobmejnamdneaa
open Go.ChangeShapes Go.WideShapes Go.ChangeAt Go.RowKit

theorem cells3 : Try.prog.cellsOf 3 = 1 := by kernel_rfl
theorem cells5 : Try.prog.cellsOf 5 = 1 := by kernel_rfl
theorem cellsPk : Try.prog.cellsOf 32 = 1 := by kernel_rfl
theorem cellsAct : Try.prog.cellsOf 34 = 132 := by kernel_rfl
theorem undAct : Try.prog.underlying 34 = some (.struct #[⟨"Kind", 3, 0, false, "", "", 0⟩, ⟨"At", 3, 1, false, "", "", 8⟩, ⟨"N", 3, 2, false, "", "", 16⟩, ⟨"S", 31, 3, false, "", "", 24⟩, ⟨"Picks", 32, 131, false, "", "", 152⟩]) := by kernel_rfl
theorem cellsSec : Try.prog.cellsOf 31 = 128 := by kernel_rfl
theorem okWide_sector {w : World} {r : Reach} {base : Nat} {v : Value} (h : Value.okWide Try.prog w r base 31 v) : ∃ cs, v = .agg cs ∧ cs.size = 128 := by
  simp only [Value.okWide, Try.underlying31] at h
  obtain ⟨cs, h1, h2, _⟩ := h
  exact ⟨cs, h1, by rw [h2, cellsSec]⟩
section
variable {H : Type} {enc : TypeId × Value → H} {w : World}
theorem u8_of_wf {a : Int} (h : (Lit.int .u8 a).wf = true) : 0 ≤ a ∧ a ≤ 255 := by
  simpa [Lit.wf, IntKind.min, IntKind.max, IntKind.signed, IntKind.bits] using h

theorem plain_addr {a : Addr} {v : Value} (h : w.cell? a = some v) : a = ⟨a.block, a.off, none⟩ := by
  unfold World.cell? at h
  split at h
  · cases hsp : a.spot with
    | none => cases a; simp_all
    | some q => rw [hsp] at h; simp at h
  · cases h
theorem list_of {α : Type} {Q : Nat → α → Prop} : ∀ m, (∀ i, i < m → ∃ p, Q i p) → ∃ xs : List α, xs.length = m ∧ ∀ i x, xs[i]? = some x → Q i x
  | 0, _ => ⟨[], rfl, fun i x h => by simp at h⟩
  | m + 1, h => by
    obtain ⟨xs, hl, hx⟩ := list_of m (fun i hi => h i (by omega))
    obtain ⟨p, hp⟩ := h m (by omega)
    refine ⟨xs ++ [p], by simp [hl], fun i x hix => ?_⟩
    rw [List.getElem?_append] at hix
    split at hix
    · exact hx i x hix
    · rename_i hge
      have : i - xs.length = 0 := by
        rcases Nat.eq_zero_or_pos (i - xs.length) with e | e
        · exact e
        · rw [List.getElem?_eq_none (by simp; omega)] at hix; cases hix
      rw [this] at hix
      have e : i = m := by omega
      subst e
      simp at hix
      rw [← hix]
      exact hp
theorem add_plain (b off n : Nat) : (⟨b, off, none⟩ : Addr).add n = ⟨b, off + n, none⟩ := by
  unfold Addr.add
  split <;> simp_all

theorem i64_of_wf {a : Int} (h : (Lit.int .i64 a).wf = true) : -9223372036854775808 ≤ a ∧ a ≤ 9223372036854775807 := by
  simpa [Lit.wf, IntKind.min, IntKind.max, IntKind.signed, IntKind.bits] using h

theorem open_sec {fuel : Nat} {cs : List Value} {x : DataW H × List MemPlace} (h : DataW.trod enc Try.prog w 0 (fun _ => true) true fuel 31 cs = some x) : ∃ s : List UInt8, s.length = 128 ∧ cs = cellsB s := by
  obtain ⟨xs, m, _, _, hlen, hxl, hel⟩ := DataW.trod_array Try.underlying31 h
  rw [cellsSec] at hlen
  obtain ⟨s, hs, hq⟩ := list_of (Q := fun i (c : UInt8) => cs[i]? = some (.int .u8 (c.toNat : Int))) 128 (fun i hi => by
    have h1 := hel i hi
    rw [cells5, Nat.mul_one] at h1
    have hx : xs[i]? = some (xs[i]'(by omega)) := List.getElem?_eq_getElem _
    rw [hx] at h1
    have hc : (cs.drop i).take 1 = [cs[i]'(by omega)] := by
      rw [List.drop_eq_getElem_cons (by omega : i < cs.length), List.take_succ_cons, List.take_zero]
    rw [hc] at h1
    obtain ⟨z, e0, _, wz⟩ := DataW.trod_int Try.underlying5 h1
    have hz := u8_of_wf wz
    injection e0 with e0
    refine ⟨UInt8.ofNat z.toNat, ?_⟩
    rw [List.getElem?_eq_getElem (by omega), e0, UInt8.toNat_ofNat']
    congr 2
    omega)
  refine ⟨s, hs, ?_⟩
  apply List.ext_getElem?
  intro i
  by_cases hi : i < 128
  · have := hq i s[i] (List.getElem?_eq_getElem (by omega))
    rw [this]
    simp [cellsB, hs, hi]
  · rw [List.getElem?_eq_none (by omega), List.getElem?_eq_none (by rw [cellsB_len]; omega)]
theorem open_sector {v : Value} {d : DataW H} {p : List MemPlace} (hval : ∃ cs, v = .agg cs ∧ cs.size = 128) (h : DataW.Trod enc Try.prog w 0 (fun _ => true) true 31 v d p) : ∃ s : List UInt8, s.length = 128 ∧ v = av s := by
  obtain ⟨cs, rfl, _⟩ := hval
  obtain ⟨fuel, hf⟩ := h
  obtain ⟨s, hs, e⟩ := open_sec hf
  refine ⟨s, hs, ?_⟩
  have e' : cs.toList = cellsB s := e
  show Value.agg cs = Value.agg (cellsB s).toArray
  rw [← e']
/-- A list of sectors that came in. -/
theorem open_secs {v : Value} {d : DataW H} {p : List MemPlace} (hval : ∃ a len cap, v = .slice a len cap) (h : DataW.Trod enc Try.prog w 0 (fun _ => true) true 38 v d p) : ∃ ss, SecV w v ss := by
  obtain ⟨a0, len, cap, rfl⟩ := hval
  obtain ⟨fuel, hf⟩ := h
  rcases Deep.open_slice Try.underlying38 hf with ⟨hcs, _⟩ | ⟨a, len', cap', m, n, D, Pl, hcs, _, hl, hcm, hm, _, hi⟩
  · simp [Value.cells] at hcs
    obtain ⟨rfl, rfl, rfl⟩ := hcs
    exact ⟨[], none, 0, rfl, Nat.le_refl _, Nat.zero_le _, fun q => by simp at q⟩
  · simp [Value.cells] at hcs
    obtain ⟨rfl, rfl, rfl⟩ := hcs
    simp only [if_true] at hm
    rcases Nat.eq_zero_or_pos len with rfl | hpos
    · exact ⟨[], _, cap, rfl, Nat.zero_le _, hcm, fun q => by simp at q⟩
    · obtain ⟨ss, hsl, hs⟩ := list_of (Q := fun i (s : List UInt8) => s.length = 128 ∧ ∀ j u, (cellsB s)[j]? = some u → w.cell? (a.add (i * 128 + j)) = some u) len (fun i hil => by
        obtain ⟨cs', hc, ht⟩ := hi i (by omega)
        rw [cellsSec] at hc
        obtain ⟨s, hs, rfl⟩ := open_sec ht
        obtain ⟨_, hlen, hat⟩ := World.cells?_some hc
        refine ⟨s, hs, fun j u hu => ?_⟩
        have hj : j < 128 := by
          have := (List.getElem?_eq_some_iff.1 hu).1
          rwa [cellsB_len, hs] at this
        have := hat j hj
        rw [add_add] at this
        rw [this, hu])
      obtain ⟨hs0, hc0⟩ := hs 0 ss[0] (List.getElem?_eq_getElem (by omega))
      have h00 := hc0 0 ((cellsB ss[0])[0]'(by rw [cellsB_len]; omega)) (List.getElem?_eq_getElem _)
      have h000 : w.cell? a = some ((cellsB ss[0])[0]'(by rw [cellsB_len]; omega)) := by
        have e : a.add (0 * 128 + 0) = a := by simp [Addr.add]
        rwa [e] at h00
      have hpl := plain_addr (a := a) h000
      obtain ⟨b, off, sp⟩ := a
      obtain rfl : sp = none := by injection hpl
      subst hsl
      refine ⟨ss, _, cap, rfl, hl, hcm, fun _ => ⟨b, off, rfl, fun i s his => ?_⟩⟩
      obtain ⟨q0, q1⟩ := hs i s his
      refine ⟨q0, fun j u hu => ?_⟩
      have := q1 j u hu
      rw [add_plain, ← Nat.add_assoc] at this
      exact this

theorem open_ints_cell {fuel : Nat} {cs : List Value} {x : DataW H × List MemPlace} (hf : DataW.trod enc Try.prog w 0 (fun _ => true) true fuel 32 cs = some x) : ∃ v picks, cs = [v] ∧ IntsAt w v picks ∧ (∀ z ∈ picks, -9223372036854775808 ≤ z ∧ z ≤ 9223372036854775807) ∧ (∀ b, v.ownBlock = some b → 0 < picks.length → b < w.heap.size) := by
  rcases open_ints Try.underlying32 Try.underlying3 cells3 hf with ⟨rfl, _⟩ | ⟨a, len0, cap0, zs, rfl, _, hl, hc, hz, _, hcell, hwf⟩
  · exact ⟨_, [], rfl, ⟨none, 0, rfl, Nat.zero_le _, fun q => by simp at q⟩, fun z hz => by simp at hz, fun b hb q => by simp at q⟩
  · simp only [if_true] at hz
    have hlt : (zs.take len0).length = len0 := by rw [List.length_take]; omega
    have hin : ∀ z ∈ zs.take len0, -9223372036854775808 ≤ z ∧ z ≤ 9223372036854775807 := fun z hz1 => i64_of_wf (hwf z (List.mem_of_mem_take hz1))
    rcases Nat.eq_zero_or_pos len0 with rfl | hpos
    · exact ⟨_, zs.take 0, rfl, ⟨some a, cap0, by rw [hlt], by rw [hlt]; omega, fun q => by rw [hlt] at q; omega⟩, hin, fun b hb q => by rw [hlt] at q; omega⟩
    have h0 := hcell 0 (by omega)
    have e0 : a.add 0 = a := by simp [Addr.add]
    rw [e0] at h0
    have hpl := plain_addr (a := a) h0
    obtain ⟨b, off, sp⟩ := a
    obtain rfl : sp = none := by injection hpl
    refine ⟨_, zs.take len0, rfl, ⟨some ⟨b, off, none⟩, cap0, by rw [hlt], by rw [hlt]; omega, fun q => ?_⟩, hin, fun b' hb q => ?_⟩
    · refine ⟨b, off, rfl, fun i z hi => ?_⟩
      rw [List.getElem?_take] at hi
      split at hi
      · rename_i hil
        have h1 := hcell i (by omega)
        rw [add_plain] at h1
        rw [h1, List.getD_eq_getElem?_getD, hi]
        rfl
      · cases hi
    · have := World.block_lt_of_cell? w _ h0
      have hb2 : b = b' := by simpa [Value.ownBlock] using hb
      rw [← hb2]
      exact this
theorem open_picks {v : Value} {d : DataW H} {p : List MemPlace} (hval : ∃ a len cap, v = .slice a len cap) (h : DataW.Trod enc Try.prog w 0 (fun _ => true) true 32 v d p) : ∃ picks, IntsAt w v picks ∧ ∀ z ∈ picks, -9223372036854775808 ≤ z ∧ z ≤ 9223372036854775807 := by
  obtain ⟨a0, len0, cap0, rfl⟩ := hval
  obtain ⟨fuel, hf⟩ := h
  obtain ⟨v, picks, e, h1, h2, _⟩ := open_ints_cell hf
  have e' : v = .slice a0 len0 cap0 := by simp [Value.cells] at e; exact e.symm
  subst e'
  exact ⟨picks, h1, h2⟩
theorem open_int {v : Value} {d : DataW H} {p : List MemPlace} (hval : ∃ z, v = .int .i64 z) (h : DataW.Trod enc Try.prog w 0 (fun _ => true) true 3 v d p) : ∃ z, v = .int .i64 z ∧ -9223372036854775808 ≤ z ∧ z ≤ 9223372036854775807 := by
  obtain ⟨z, rfl⟩ := hval
  obtain ⟨fuel, hf⟩ := h
  obtain ⟨u, e0, _, wu⟩ := DataW.trod_int Try.underlying3 hf
  have e : Value.int .i64 z = .int .i64 u := by simpa [Value.cells] using e0
  injection e with _ e
  subst e
  exact ⟨z, rfl, i64_of_wf wu⟩

/-- An act: its kind, its sector, its number, its bytes, its picks. -/
structure ActD where
  k : Int
  a : Int
  n : Int
  s : List UInt8
  pv : Value
  ps : List Int
structure ActIn (w : World) (x : ActD) : Prop where
  a0 : -9223372036854775808 ≤ x.a
  a1 : x.a ≤ 9223372036854775807
  n1 : x.n ≤ 9223372036854775807
  sl : x.s.length = 128
  pi : IntsAt w x.pv x.ps
  pl : ∀ b, x.pv.ownBlock = some b → 0 < x.ps.length → b < w.heap.size
structure ActAt (w : World) (b off : Nat) (x : ActD) : Prop where
  c0 : w.cell? ⟨b, off, none⟩ = some (.int .i64 x.k)
  c1 : w.cell? ⟨b, off + 1, none⟩ = some (.int .i64 x.a)
  c2 : w.cell? ⟨b, off + 2, none⟩ = some (.int .i64 x.n)
  rs : w.rangeAt b (off + 3) (cellsB x.s)
  c4 : w.cell? ⟨b, off + 131, none⟩ = some x.pv
  in_ : ActIn w x
def ActsAt (w : World) (b off : Nat) (xs : List ActD) : Prop := ∀ i x, xs[i]? = some x → ActAt w b (off + i * 132) x
/-- A list of acts, in memory. -/
def ActV (w : World) (v : Value) (xs : List ActD) : Prop := ∃ A cap, v = .slice A xs.length cap ∧ xs.length ≤ maxLen ∧ (0 < xs.length → ∃ b off, A = some ⟨b, off, none⟩ ∧ ActsAt w b off xs)
theorem IntsAt.new {w w' : World} {v : Value} {zs : List Int} (h : IntsAt w v zs) (f : Fr (fun _ => False) w w') : IntsAt w' v zs := h.keep f (fun _ _ q => q)
theorem ActAt.new {w w' : World} {b off : Nat} {x : ActD} (h : ActAt w b off x) (f : Fr (fun _ => False) w w') : ActAt w' b off x := by
  have k : ∀ {p : Addr} {v : Value}, w.cell? p = some v → w'.cell? p = some v := fun hc => (f.cell (World.block_lt_of_cell? w _ hc) (fun q => q)).trans hc
  exact ⟨k h.c0, k h.c1, k h.c2, fun j v hv => k (h.rs j v hv), k h.c4, ⟨h.in_.a0, h.in_.a1, h.in_.n1, h.in_.sl, h.in_.pi.new f, fun b hb q => Nat.lt_of_lt_of_le (h.in_.pl b hb q) f.size⟩⟩
theorem ActsAt.new {w w' : World} {b off : Nat} {xs : List ActD} (h : ActsAt w b off xs) (f : Fr (fun _ => False) w w') : ActsAt w' b off xs := fun i x hi => (h i x hi).new f
theorem ActV.new {w w' : World} {v : Value} {xs : List ActD} (h : ActV w v xs) (f : Fr (fun _ => False) w w') : ActV w' v xs := by
  obtain ⟨A, cap, e, h1, h2⟩ := h
  exact ⟨A, cap, e, h1, fun q => by obtain ⟨b, off, e1, h⟩ := h2 q; exact ⟨b, off, e1, h.new f⟩⟩
theorem trod_struct5 {P : Program} {base : Nat} {spare : Nat → Bool} {held : Bool} {t : TypeId} {f0 f1 f2 f3 f4 : Field} {fuel : Nat} {cs : List Value} {x : DataW H × List MemPlace} (ht : P.underlying t = some (.struct #[f0, f1, f2, f3, f4])) (h : DataW.trod enc P w base spare held fuel t cs = some x) :
    ∃ y0 y1 y2 y3 y4 n, cs.length = P.cellsOf t ∧ DataW.trod enc P w base spare held n f0.type ((cs.drop f0.offset).take (P.cellsOf f0.type)) = some y0 ∧
      DataW.trod enc P w base spare held n f1.type ((cs.drop f1.offset).take (P.cellsOf f1.type)) = some y1 ∧ DataW.trod enc P w base spare held n f2.type ((cs.drop f2.offset).take (P.cellsOf f2.type)) = some y2 ∧
      DataW.trod enc P w base spare held n f3.type ((cs.drop f3.offset).take (P.cellsOf f3.type)) = some y3 ∧ DataW.trod enc P w base spare held n f4.type ((cs.drop f4.offset).take (P.cellsOf f4.type)) = some y4 := by
  obtain ⟨xs, n, _, rfl, hl, hlen, hf⟩ := DataW.trod_struct ht h
  match xs, hlen with
  | [y0, y1, y2, y3, y4], _ => exact ⟨y0, y1, y2, y3, y4, n, hl, by simpa using hf 0 f0 rfl, by simpa using hf 1 f1 rfl, by simpa using hf 2 f2 rfl, by simpa using hf 3 f3 rfl, by simpa using hf 4 f4 rfl⟩
theorem take_one {cs : List Value} {i : Nat} {v : Value} (h : (cs.drop i).take 1 = [v]) : cs[i]? = some v := by
  have h1 : ((cs.drop i).take 1)[0]? = some v := by rw [h]; rfl
  rw [List.getElem?_take, if_pos (by omega), List.getElem?_drop] at h1
  exact h1
theorem open_act {b off : Nat} {fuel : Nat} {cs : List Value} {x : DataW H × List MemPlace} (hat : ∀ j, j < 132 → w.cell? ⟨b, off + j, none⟩ = cs[j]?) (h : DataW.trod enc Try.prog w 0 (fun _ => true) true fuel 34 cs = some x) : ∃ p : ActD, ActAt w b off p := by
  obtain ⟨y0, y1, y2, y3, y4, n, hlen, t0, t1, t2, t3, t4⟩ := trod_struct5 undAct h
  simp only [cells3, cellsSec, cellsPk] at t0 t1 t2 t3 t4
  obtain ⟨z0, e0, _, w0⟩ := DataW.trod_int Try.underlying3 t0
  obtain ⟨z1, e1, _, w1⟩ := DataW.trod_int Try.underlying3 t1
  obtain ⟨z2, e2, _, w2⟩ := DataW.trod_int Try.underlying3 t2
  obtain ⟨s, hs, e3⟩ := open_sec t3
  obtain ⟨v, picks, e4, h1, h2, h3⟩ := open_ints_cell t4
  refine ⟨⟨z0, z1, z2, s, v, picks⟩, ⟨(hat 0 (by omega)).trans (take_one e0), (hat 1 (by omega)).trans (take_one e1), (hat 2 (by omega)).trans (take_one e2), fun j u hj => ?_, (hat 131 (by omega)).trans (take_one e4), ⟨(i64_of_wf w1).1, (i64_of_wf w1).2, (i64_of_wf w2).2, hs, h1, h3⟩⟩⟩
  have hj1 : j < 128 := by
    have := (List.getElem?_eq_some_iff.1 hj).1
    rwa [cellsB_len, hs] at this
  rw [Nat.add_assoc, hat (3 + j) (by omega)]
  rw [← e3, List.getElem?_take, if_pos hj1, List.getElem?_drop] at hj
  exact hj
set_option maxRecDepth 100000 in
/-- A list of acts that came in. -/
theorem open_acts {v : Value} {d : DataW H} {p : List MemPlace} (hval : ∃ a len cap, v = .slice a len cap) (h : DataW.Trod enc Try.prog w 0 (fun _ => true) true 22 v d p) : ∃ xs, ActV w v xs := by
  obtain ⟨a0, len, cap, rfl⟩ := hval
  obtain ⟨fuel, hf⟩ := h
  rcases Deep.open_slice Try.underlying22 hf with ⟨hcs, _⟩ | ⟨a, len', cap', m, n, D, Pl, hcs, _, hl, hcm, hm, _, hi⟩
  · simp [Value.cells] at hcs
    obtain ⟨rfl, rfl, rfl⟩ := hcs
    exact ⟨[], none, 0, rfl, Nat.zero_le _, fun q => by simp at q⟩
  · simp [Value.cells] at hcs
    obtain ⟨rfl, rfl, rfl⟩ := hcs
    simp only [if_true] at hm
    rcases Nat.eq_zero_or_pos len with rfl | hpos
    · exact ⟨[], _, cap, rfl, Nat.zero_le _, fun q => by simp at q⟩
    · have hpl : a = ⟨a.block, a.off, none⟩ := by
        obtain ⟨cs', hc, ht⟩ := hi 0 (by omega)
        rw [cellsAct] at hc
        obtain ⟨_, hlen, hat⟩ := World.cells?_some hc
        have h0 := hat 0 (by omega)
        have e : (a.add (0 * 132)).add 0 = a := by rw [Nat.zero_mul]; simp [Addr.add]
        rw [e] at h0
        rw [List.getElem?_eq_getElem (by omega : 0 < cs'.length)] at h0
        exact plain_addr h0
      obtain ⟨b, off, sp⟩ := a
      obtain rfl : sp = none := by injection hpl
      obtain ⟨xs, hsl, hs⟩ := list_of (Q := fun i (p : ActD) => ActAt w b (off + i * 132) p) len (fun i hil => by
        obtain ⟨cs', hc, ht⟩ := hi i (by omega)
        rw [cellsAct] at hc
        obtain ⟨_, hlen, hat⟩ := World.cells?_some hc
        refine open_act (fun j hj => ?_) ht
        have := hat j hj
        rw [add_plain, add_plain] at this
        exact this)
      subst hsl
      exact ⟨xs, _, cap, rfl, by omega, fun _ => ⟨b, off, rfl, hs⟩⟩
end
end Go.Proofs.Ytiobmejnamdneaa
