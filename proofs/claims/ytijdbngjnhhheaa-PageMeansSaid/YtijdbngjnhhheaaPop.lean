/- Arguments that came in, opened: bytes; acts. -/
import Derived.Test.YtijdbngjnhhheaaPpl
import Derived.Test.YtijdbngjnhhheaaLaw
import Derived.Deep.Slices
import Derived.Lib.SmallJoins
namespace Go.Proofs.Ytijdbngjnhhheaa
open Go.ChangeShapes Go.WideShapes Go.ChangeAt Go.RowKit

set_option maxRecDepth 100000 in
theorem cellsAct : Try.prog.cellsOf 43 = 4 := by kernel_rfl
set_option maxRecDepth 100000 in
theorem cells3 : Try.prog.cellsOf 3 = 1 := by kernel_rfl
set_option maxRecDepth 100000 in
theorem cells26 : Try.prog.cellsOf 34 = 1 := by kernel_rfl
set_option maxRecDepth 100000 in
theorem undAct : Try.prog.underlying 43 = some (.struct #[⟨"Kind", 3, 0, false, "", "", 0⟩, ⟨"Slot", 3, 1, false, "", "", 8⟩, ⟨"Next", 3, 2, false, "", "", 16⟩, ⟨"B", 34, 3, false, "", "", 24⟩]) := by kernel_rfl
set_option maxRecDepth 100000 in
theorem cells5 : Try.prog.cellsOf 5 = 1 := by kernel_rfl

section
variable {H : Type} {enc : TypeId × Value → H} {w : World}

set_option maxRecDepth 100000 in
theorem u8_of_wf {a : Int} (h : (Lit.int .u8 a).wf = true) : 0 ≤ a ∧ a ≤ 255 := by
  simpa [Lit.wf, IntKind.min, IntKind.max, IntKind.signed, IntKind.bits] using h

set_option maxRecDepth 100000 in
/-- A cell that holds bytes. -/
theorem open_bytes {fuel : Nat} {cs : List Value} {x : DataW H × List MemPlace} (h : DataW.trod enc Try.prog w 0 (fun _ => true) true fuel 34 cs = some x) :
    ∃ A n c l, cs = [.slice A n c] ∧ Rd w A n l ∧ (A = none → c = 0) ∧ n ≤ c ∧ c ≤ maxLen ∧ (0 < n → ∀ ad, A = some ad → ad.block < w.heap.size) := by
  rcases open_ints Try.underlying34 Try.underlying5 cells5 h with ⟨rfl, _⟩ | ⟨a, len, cap, zs, rfl, _, hl, hc, hz, _, hcell, hwf⟩
  · exact ⟨none, 0, 0, [], rfl, Rd.nil _ _, fun _ => rfl, Nat.le_refl _, Nat.zero_le _, fun h => absurd h (by omega)⟩
  · simp only [if_true] at hz
    have hr : Rd w (some a) len ((zs.take len).map fun z => UInt8.ofNat z.toNat) := by
      refine ⟨by rw [List.length_map, List.length_take]; omega, fun _ => ⟨a, rfl, fun j c hj => ?_⟩⟩
      rw [List.getElem?_map, Option.map_eq_some_iff] at hj
      obtain ⟨z, hz1, rfl⟩ := hj
      rw [List.getElem?_take] at hz1
      split at hz1
      · rename_i hjl
        have hjz : j < zs.length := by omega
        have hg := hcell j hjz
        have hzz : zs.getD j 0 = z := by rw [List.getD_eq_getElem?_getD, hz1]; rfl
        rw [hzz] at hg
        have hw := u8_of_wf (hwf z (List.mem_of_getElem? hz1))
        rw [hg, UInt8.toNat_ofNat']
        congr 2
        omega
      · cases hz1
    refine ⟨some a, len, cap, _, rfl, hr, (fun e => by cases e), hl, hc, fun h0 ad e => ?_⟩
    obtain ⟨ad', e', hlt⟩ := hr.lt h0
    rw [e] at e'
    injection e' with e'
    rw [e']
    exact hlt

set_option maxRecDepth 100000 in
theorem plain_addr {a : Addr} {v : Value} (h : w.cell? a = some v) : a = ⟨a.block, a.off, none⟩ := by
  unfold World.cell? at h
  split at h
  · cases hsp : a.spot with
    | none => cases a; simp_all
    | some q => rw [hsp] at h; simp at h
  · cases h
set_option maxRecDepth 100000 in
theorem list_of {α : Type} {Q : Nat → α → Prop} : ∀ m, (∀ i, i < m → ∃ p, Q i p) → ∃ xs : List α, xs.length = m ∧ ∀ i x, xs[i]? = some x → Q i x
  | 0, _ => ⟨[], rfl, fun i x h => by simp at h⟩
  | m + 1, h => by
    obtain ⟨xs, hl, hx⟩ := list_of m (fun i hi => h i (by omega))
    obtain ⟨p, hp⟩ := h m (by omega)
    refine ⟨xs ++ [p], by simp [hl], fun i x hix => ?_⟩
    rw [List.getElem?_append] at hix
    split at hix
    · exact hx i x hix
    · rename_i hge
      have : i - xs.length = 0 := by
        rcases Nat.eq_zero_or_pos (i - xs.length) with e | e
        · exact e
        · rw [List.getElem?_eq_none (by simp; omega)] at hix; cases hix
      rw [this] at hix
      have e : i = m := by omega
      subst e
      simp at hix
      rw [← hix]
      exact hp
set_option maxRecDepth 100000 in
theorem add_plain (b off n : Nat) : (⟨b, off, none⟩ : Addr).add n = ⟨b, off + n, none⟩ := by
  unfold Addr.add
  split <;> simp_all

set_option maxRecDepth 100000 in
theorem i64_of_wf {a : Int} (h : (Lit.int .i64 a).wf = true) : -9223372036854775808 ≤ a ∧ a ≤ 9223372036854775807 := by
  simpa [Lit.wf, IntKind.min, IntKind.max, IntKind.signed, IntKind.bits] using h

set_option maxRecDepth 100000 in
theorem open_int {v : Value} {d : DataW H} {p : List MemPlace} (hval : ∃ z, v = .int .i64 z) (h : DataW.Trod enc Try.prog w 0 (fun _ => true) true 3 v d p) : ∃ z, v = .int .i64 z ∧ -9223372036854775808 ≤ z ∧ z ≤ 9223372036854775807 := by
  obtain ⟨z, rfl⟩ := hval
  obtain ⟨fuel, hf⟩ := h
  obtain ⟨u, e0, _, wu⟩ := DataW.trod_int Try.underlying3 hf
  have e : Value.int .i64 z = .int .i64 u := by simpa [Value.cells] using e0
  injection e with _ e
  subst e
  exact ⟨z, rfl, i64_of_wf wu⟩
set_option maxRecDepth 100000 in
theorem open_act {a : Addr} {i : Nat} {fuel : Nat} {cs : List Value} {x : DataW H × List MemPlace} (hc : w.cells? 0 (a.add (i * 4)) 4 = some cs) (h : DataW.trod enc Try.prog w 0 (fun _ => true) true fuel 43 cs = some x) :
    ∃ p : ActR, ActK w p ∧ w.cell? (a.add (i * 4)) = some (.int .i64 p.a.kd) ∧ w.cell? (a.add (i * 4 + 1)) = some (.int .i64 p.a.sl) ∧ w.cell? (a.add (i * 4 + 2)) = some (.int .i64 p.a.nx) ∧ w.cell? (a.add (i * 4 + 3)) = some (.slice p.A p.n p.c) := by
  obtain ⟨_, hlen, hat⟩ := World.cells?_some hc
  match cs, hlen with
  | [c0, c1, c2, c3], _ =>
    obtain ⟨y0, y1, y2, y3, n, _, _, t0, t1, t2, t3⟩ := Joins.trod_struct4 undAct h
    simp only [cells3, cells26, List.drop_zero, List.drop_succ_cons, List.take_succ_cons, List.take_zero] at t0 t1 t2 t3
    obtain ⟨k, e0, _, _⟩ := DataW.trod_int Try.underlying3 t0
    obtain ⟨u, e1, _, wu⟩ := DataW.trod_int Try.underlying3 t1
    obtain ⟨z, e2, _, wz⟩ := DataW.trod_int Try.underlying3 t2
    obtain ⟨A, m, c, l, e3, hr, hA, hmc, hcm, hlt⟩ := open_bytes t3
    injection e0 with e0
    injection e1 with e1
    injection e2 with e2
    injection e3 with e3
    subst e0 e1 e2 e3
    have a0 := hat 0 (by omega)
    have a1 := hat 1 (by omega)
    have a2 := hat 2 (by omega)
    have a3 := hat 3 (by omega)
    rw [add_add] at a0 a1 a2 a3
    exact ⟨⟨⟨k, u, z, l⟩, A, m, c⟩, ⟨hr.len.symm, hr, hmc, hcm⟩, a0, a1, a2, a3⟩

set_option maxRecDepth 100000 in
/-- A list of acts that came in. -/
theorem open_acts {v : Value} {d : DataW H} {p : List MemPlace} (hval : ∃ a len cap, v = .slice a len cap) (h : DataW.Trod enc Try.prog w 0 (fun _ => true) true 22 v d p) : ∃ xs, ListV w v xs := by
  obtain ⟨a0, len, cap, rfl⟩ := hval
  obtain ⟨fuel, hf⟩ := h
  rcases Deep.open_slice Try.underlying22 hf with ⟨hcs, _⟩ | ⟨a, len', cap', m, n, D, Pl, hcs, _, hl, hcm, hm, _, hi⟩
  · simp [Value.cells] at hcs
    obtain ⟨rfl, rfl, rfl⟩ := hcs
    exact ⟨[], none, 0, rfl, Nat.zero_le _, fun q => by simp at q⟩
  · simp [Value.cells] at hcs
    obtain ⟨rfl, rfl, rfl⟩ := hcs
    simp only [if_true] at hm
    rcases Nat.eq_zero_or_pos len with rfl | hpos
    · exact ⟨[], _, cap, rfl, Nat.zero_le _, fun q => by simp at q⟩
    · obtain ⟨xs, hxl, hx⟩ := list_of (Q := fun i (p : ActR) => ActK w p ∧ w.cell? (a.add (i * 4)) = some (.int .i64 p.a.kd) ∧ w.cell? (a.add (i * 4 + 1)) = some (.int .i64 p.a.sl) ∧ w.cell? (a.add (i * 4 + 2)) = some (.int .i64 p.a.nx) ∧ w.cell? (a.add (i * 4 + 3)) = some (.slice p.A p.n p.c)) len (fun i hil => by
        obtain ⟨cs', hc, ht⟩ := hi i (by omega)
        rw [cellsAct] at hc
        exact open_act hc ht)
      have h0 := (hx 0 xs[0] (List.getElem?_eq_getElem (by omega))).2.1
      have hpl := plain_addr (a := a) h0
      obtain ⟨b, off, sp⟩ := a
      obtain rfl : sp = none := by injection hpl
      subst hxl
      refine ⟨xs, _, cap, rfl, by omega, fun _ => ⟨b, off, rfl, fun i x hix => ?_⟩⟩
      obtain ⟨q0, q1, q2, q3, q4⟩ := hx i x hix
      rw [add_plain] at q1 q2 q3 q4
      refine ⟨q0, fun w' f k u hk => ?_⟩
      match k with
      | 0 => exact (f.cell (World.block_lt_of_cell? w _ q1) (fun q => q)).trans (q1.trans hk)
      | 1 => exact (f.cell (World.block_lt_of_cell? w _ q2) (fun q => q)).trans (q2.trans hk)
      | 2 => exact (f.cell (World.block_lt_of_cell? w _ q3) (fun q => q)).trans (q3.trans hk)
      | 3 => exact (f.cell (World.block_lt_of_cell? w _ q4) (fun q => q)).trans (q4.trans hk)
      | k + 4 => simp [cellsA] at hk
end
end Go.Proofs.Ytijdbngjnhhheaa
