/- Arguments that came in, opened: bytes; rows. -/
import Derived.Test.YtbnegiiombnnaaaRow
import Derived.Deep.Slices
import Derived.Lib.SmallJoins
namespace Go.Proofs.Ytbnegiiombnnaaa
open Go.ChangeShapes Go.WideShapes Go.ChangeAt Go.RowKit

theorem cells50 : Try.prog.cellsOf 50 = 3 := by kernel_rfl
theorem cells24 : Try.prog.cellsOf 24 = 2 := by kernel_rfl
theorem cells3 : Try.prog.cellsOf 3 = 1 := by kernel_rfl
theorem cells22 : Try.prog.cellsOf 22 = 1 := by kernel_rfl
theorem cells25 : Try.prog.cellsOf 25 = 1 := by kernel_rfl
theorem und50 : Try.prog.underlying 50 = some (.struct #[⟨"Tag", 24, 0, false, "", "", 0⟩, ⟨"B", 25, 2, false, "", "", 16⟩]) := by kernel_rfl
theorem und24 : Try.prog.underlying 24 = some (.struct #[⟨"Count", 22, 0, false, "", "", 0⟩, ⟨"Number", 3, 1, false, "", "", 8⟩]) := by kernel_rfl
theorem cells5 : Try.prog.cellsOf 5 = 1 := by kernel_rfl

section
variable {H : Type} {enc : TypeId × Value → H} {w : World}

theorem u8_of_wf {a : Int} (h : (Lit.int .u8 a).wf = true) : 0 ≤ a ∧ a ≤ 255 := by
  simpa [Lit.wf, IntKind.min, IntKind.max, IntKind.signed, IntKind.bits] using h

/-- A cell that holds bytes. -/
theorem open_bytes {fuel : Nat} {cs : List Value} {x : DataW H × List MemPlace} (h : DataW.trod enc Try.prog w 0 (fun _ => true) true fuel 25 cs = some x) :
    ∃ A n c l, cs = [.slice A n c] ∧ Rd w A n l ∧ (A = none → c = 0) ∧ n ≤ c ∧ c ≤ maxLen ∧ (0 < n → ∀ ad, A = some ad → ad.block < w.heap.size) := by
  rcases open_ints Try.underlying25 Try.underlying5 cells5 h with ⟨rfl, _⟩ | ⟨a, len, cap, zs, rfl, _, hl, hc, hz, _, hcell, hwf⟩
  · exact ⟨none, 0, 0, [], rfl, Rd.nil _ _, fun _ => rfl, Nat.le_refl _, Nat.zero_le _, fun h => absurd h (by omega)⟩
  · simp only [if_true] at hz
    have hr : Rd w (some a) len ((zs.take len).map fun z => UInt8.ofNat z.toNat) := by
      refine ⟨by rw [List.length_map, List.length_take]; omega, fun _ => ⟨a, rfl, fun j c hj => ?_⟩⟩
      rw [List.getElem?_map, Option.map_eq_some_iff] at hj
      obtain ⟨z, hz1, rfl⟩ := hj
      rw [List.getElem?_take] at hz1
      split at hz1
      · rename_i hjl
        have hjz : j < zs.length := by omega
        have hg := hcell j hjz
        have hzz : zs.getD j 0 = z := by rw [List.getD_eq_getElem?_getD, hz1]; rfl
        rw [hzz] at hg
        have hw := u8_of_wf (hwf z (List.mem_of_getElem? hz1))
        rw [hg, UInt8.toNat_ofNat']
        congr 2
        omega
      · cases hz1
    refine ⟨some a, len, cap, _, rfl, hr, (fun e => by cases e), hl, hc, fun h0 ad e => ?_⟩
    obtain ⟨ad', e', hlt⟩ := hr.lt h0
    rw [e] at e'
    injection e' with e'
    rw [e']
    exact hlt

theorem plain_addr {a : Addr} {v : Value} (h : w.cell? a = some v) : a = ⟨a.block, a.off, none⟩ := by
  unfold World.cell? at h
  split at h
  · cases hsp : a.spot with
    | none => cases a; simp_all
    | some q => rw [hsp] at h; simp at h
  · cases h
theorem list_of {α : Type} {Q : Nat → α → Prop} : ∀ m, (∀ i, i < m → ∃ p, Q i p) → ∃ xs : List α, xs.length = m ∧ ∀ i x, xs[i]? = some x → Q i x
  | 0, _ => ⟨[], rfl, fun i x h => by simp at h⟩
  | m + 1, h => by
    obtain ⟨xs, hl, hx⟩ := list_of m (fun i hi => h i (by omega))
    obtain ⟨p, hp⟩ := h m (by omega)
    refine ⟨xs ++ [p], by simp [hl], fun i x hix => ?_⟩
    rw [List.getElem?_append] at hix
    split at hix
    · exact hx i x hix
    · rename_i hge
      have : i - xs.length = 0 := by
        rcases Nat.eq_zero_or_pos (i - xs.length) with e | e
        · exact e
        · rw [List.getElem?_eq_none (by simp; omega)] at hix; cases hix
      rw [this] at hix
      have e : i = m := by omega
      subst e
      simp at hix
      rw [← hix]
      exact hp
theorem add_plain (b off n : Nat) : (⟨b, off, none⟩ : Addr).add n = ⟨b, off + n, none⟩ := by
  unfold Addr.add
  split <;> simp_all

theorem nat_of_wf {a : Int} (h : (Lit.int .u64 a).wf = true) : ∃ n : Nat, a = n ∧ n < 18446744073709551616 := by
  have hx : 0 ≤ a ∧ a ≤ 18446744073709551615 := by simpa [Lit.wf, IntKind.min, IntKind.max, IntKind.signed, IntKind.bits] using h
  exact ⟨a.toNat, by omega, by omega⟩
theorem i64_of_wf {a : Int} (h : (Lit.int .i64 a).wf = true) : -9223372036854775808 ≤ a ∧ a ≤ 9223372036854775807 := by
  simpa [Lit.wf, IntKind.min, IntKind.max, IntKind.signed, IntKind.bits] using h

theorem open_row {a : Addr} {i : Nat} {fuel : Nat} {cs : List Value} {x : DataW H × List MemPlace} (hc : w.cells? 0 (a.add (i * 3)) 3 = some cs) (h : DataW.trod enc Try.prog w 0 (fun _ => true) true fuel 50 cs = some x) :
    ∃ p : RowD, RowOk w p ∧ w.cell? (a.add (i * 3)) = some (.int .u64 p.c) ∧ w.cell? (a.add (i * 3 + 1)) = some (.int .i64 p.n) ∧ w.cell? (a.add (i * 3 + 2)) = some (.slice p.A p.m p.k) := by
  obtain ⟨_, hlen, hat⟩ := World.cells?_some hc
  match cs, hlen with
  | [c0, c1, c2], _ =>
    obtain ⟨y0, y1, n, _, _, t0, t1⟩ := trod_struct2 und50 h
    simp only [cells24, cells25, List.drop_zero, List.drop_succ_cons, List.take_succ_cons, List.take_zero] at t0 t1
    obtain ⟨z0, z1, n', _, _, s0, s1⟩ := trod_struct2 und24 t0
    simp only [cells3, cells22, List.drop_zero, List.drop_succ_cons, List.take_succ_cons, List.take_zero] at s0 s1
    obtain ⟨u, e0, _, wu⟩ := DataW.trod_int Try.underlying22 s0
    obtain ⟨z, e1, _, wz⟩ := DataW.trod_int Try.underlying3 s1
    obtain ⟨A, m, c, l, e2, hr, hA, hmc, hcm, hlt⟩ := open_bytes t1
    obtain ⟨nn, rfl, hn⟩ := nat_of_wf wu
    injection e0 with e0
    injection e1 with e1
    injection e2 with e2
    subst e0 e1 e2
    have a0 := hat 0 (by omega)
    have a1 := hat 1 (by omega)
    have a2 := hat 2 (by omega)
    rw [add_add] at a0 a1 a2
    exact ⟨⟨nn, z, A, m, c, l⟩, ⟨hn, (i64_of_wf wz).1, (i64_of_wf wz).2, hr, hmc, hcm⟩, a0, a1, a2⟩

/-- A list of rows that came in. -/
theorem open_rows {v : Value} {d : DataW H} {p : List MemPlace} (hval : ∃ a len cap, v = .slice a len cap) (h : DataW.Trod enc Try.prog w 0 (fun _ => true) true 46 v d p) :
    (∃ A cap, v = .slice A 0 cap) ∨ ∃ (b off cap : Nat) (xs : List RowD), v = .slice (some ⟨b, off, none⟩) xs.length cap ∧ xs.length ≤ maxLen ∧ RowsAt w b off xs := by
  obtain ⟨a0, len, cap, rfl⟩ := hval
  obtain ⟨fuel, hf⟩ := h
  rcases Deep.open_slice Try.underlying46 hf with ⟨hcs, _⟩ | ⟨a, len', cap', m, n, D, Pl, hcs, _, hl, hcm, hm, _, hi⟩
  · simp [Value.cells] at hcs
    obtain ⟨rfl, rfl, rfl⟩ := hcs
    exact .inl ⟨none, 0, rfl⟩
  · simp [Value.cells] at hcs
    obtain ⟨rfl, rfl, rfl⟩ := hcs
    simp only [if_true] at hm
    rcases Nat.eq_zero_or_pos len with rfl | hpos
    · exact .inl ⟨_, _, rfl⟩
    · obtain ⟨xs, hxl, hx⟩ := list_of (Q := fun i (p : RowD) => RowOk w p ∧ w.cell? (a.add (i * 3)) = some (.int .u64 p.c) ∧ w.cell? (a.add (i * 3 + 1)) = some (.int .i64 p.n) ∧ w.cell? (a.add (i * 3 + 2)) = some (.slice p.A p.m p.k)) len (fun i hil => by
        obtain ⟨cs', hc, ht⟩ := hi i (by omega)
        rw [cells50] at hc
        exact open_row hc ht)
      have h0 := (hx 0 xs[0] (List.getElem?_eq_getElem (by omega))).2.1
      have hpl := plain_addr (a := a) h0
      obtain ⟨b, off, sp⟩ := a
      obtain rfl : sp = none := by injection hpl
      subst hxl
      refine .inr ⟨b, off, cap, xs, rfl, by omega, fun i x hix => ?_⟩
      obtain ⟨q0, q1, q2, q3⟩ := hx i x hix
      rw [add_plain] at q1 q2 q3
      exact ⟨q0, q1, q2, q3⟩
end
end Go.Proofs.Ytbnegiiombnnaaa
