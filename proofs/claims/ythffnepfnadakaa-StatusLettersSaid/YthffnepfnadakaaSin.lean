/- Lists of numbers and of statuses, in memory; such arguments. -/
import Derived.Test.YthffnepfnadakaaFba
import Derived.Deep.Slices
import Derived.Lib.SmallJoins
namespace Go.Proofs.Ythffnepfnadakaa
open Go.ChangeShapes Go.WideShapes Go.ChangeAt Go.RowKit

/-- A list of numbers, read from memory. -/
def IntsAt (w : World) (v : Value) (zs : List Int) : Prop := ∃ A c, v = .slice A zs.length c ∧ zs.length ≤ maxLen ∧ (0 < zs.length → ∃ b off, A = some ⟨b, off, none⟩ ∧ ∀ (i : Nat) (z : Int), zs[i]? = some z → w.cell? ⟨b, off + i, none⟩ = some (.int .i64 z))
section
variable {H : Type} {enc : TypeId × Value → H} {w : World}
theorem plain_addr {a : Addr} {v : Value} (h : w.cell? a = some v) : a = ⟨a.block, a.off, none⟩ := by
  unfold World.cell? at h
  split at h
  · cases hsp : a.spot with
    | none => cases a; simp_all
    | some q => rw [hsp] at h; simp at h
  · cases h
theorem list_of {α : Type} {Q : Nat → α → Prop} : ∀ m, (∀ i, i < m → ∃ p, Q i p) → ∃ xs : List α, xs.length = m ∧ ∀ i x, xs[i]? = some x → Q i x
  | 0, _ => ⟨[], rfl, fun i x h => by simp at h⟩
  | m + 1, h => by
    obtain ⟨xs, hl, hx⟩ := list_of m (fun i hi => h i (by omega))
    obtain ⟨p, hp⟩ := h m (by omega)
    refine ⟨xs ++ [p], by simp [hl], fun i x hix => ?_⟩
    rw [List.getElem?_append] at hix
    split at hix
    · exact hx i x hix
    · rename_i hge
      have : i - xs.length = 0 := by
        rcases Nat.eq_zero_or_pos (i - xs.length) with e | e
        · exact e
        · rw [List.getElem?_eq_none (by simp; omega)] at hix; cases hix
      rw [this] at hix
      have e : i = m := by omega
      subst e
      simp at hix
      rw [← hix]
      exact hp
theorem add_plain (b off n : Nat) : (⟨b, off, none⟩ : Addr).add n = ⟨b, off + n, none⟩ := by
  unfold Addr.add
  split <;> simp_all
theorem i64_of_wf {a : Int} (h : (Lit.int .i64 a).wf = true) : -9223372036854775808 ≤ a ∧ a ≤ 9223372036854775807 := by
  simpa [Lit.wf, IntKind.min, IntKind.max, IntKind.signed, IntKind.bits] using h
theorem cells_sts : Try.prog.cellsOf 22 = 1 := by kernel_rfl
set_option maxRecDepth 100000 in
theorem open_sts_cell {fuel : Nat} {cs : List Value} {x : DataW H × List MemPlace} (hf : DataW.trod enc Try.prog w 0 (fun _ => true) true fuel 25 cs = some x) : ∃ v picks, cs = [v] ∧ IntsAt w v picks ∧ (∀ z ∈ picks, -9223372036854775808 ≤ z ∧ z ≤ 9223372036854775807) ∧ (∀ b, v.ownBlock = some b → 0 < picks.length → b < w.heap.size) := by
  rcases open_ints Try.underlying25 Try.underlying22 cells_sts hf with ⟨rfl, _⟩ | ⟨a, len0, cap0, zs, rfl, _, hl, hc, hz, _, hcell, hwf⟩
  · exact ⟨_, [], rfl, ⟨none, 0, rfl, Nat.zero_le _, fun q => by simp at q⟩, fun z hz => by simp at hz, fun b hb q => by simp at q⟩
  · simp only [if_true] at hz
    have hlt : (zs.take len0).length = len0 := by rw [List.length_take]; omega
    have hin : ∀ z ∈ zs.take len0, -9223372036854775808 ≤ z ∧ z ≤ 9223372036854775807 := fun z hz1 => i64_of_wf (hwf z (List.mem_of_mem_take hz1))
    rcases Nat.eq_zero_or_pos len0 with rfl | hpos
    · exact ⟨_, zs.take 0, rfl, ⟨some a, cap0, by rw [hlt], by rw [hlt]; omega, fun q => by rw [hlt] at q; omega⟩, hin, fun b hb q => by rw [hlt] at q; omega⟩
    have h0 := hcell 0 (by omega)
    have e0 : a.add 0 = a := by simp [Addr.add]
    rw [e0] at h0
    have hpl := plain_addr (a := a) h0
    obtain ⟨b, off, sp⟩ := a
    obtain rfl : sp = none := by injection hpl
    refine ⟨_, zs.take len0, rfl, ⟨some ⟨b, off, none⟩, cap0, by rw [hlt], by rw [hlt]; omega, fun q => ?_⟩, hin, fun b' hb q => ?_⟩
    · refine ⟨b, off, rfl, fun i z hi => ?_⟩
      rw [List.getElem?_take] at hi
      split at hi
      · rename_i hil
        have h1 := hcell i (by omega)
        rw [add_plain] at h1
        rw [h1, List.getD_eq_getElem?_getD, hi]
        rfl
      · cases hi
    · have := World.block_lt_of_cell? w _ h0
      have hb2 : b = b' := by simpa [Value.ownBlock] using hb
      rw [← hb2]
      exact this
set_option maxRecDepth 100000 in
theorem open_sts {v : Value} {d : DataW H} {p : List MemPlace} (hval : ∃ a len cap, v = .slice a len cap) (h : DataW.Trod enc Try.prog w 0 (fun _ => true) true 25 v d p) : ∃ picks, IntsAt w v picks ∧ ∀ z ∈ picks, -9223372036854775808 ≤ z ∧ z ≤ 9223372036854775807 := by
  obtain ⟨a0, len0, cap0, rfl⟩ := hval
  obtain ⟨fuel, hf⟩ := h
  obtain ⟨v, picks, e, h1, h2, _⟩ := open_sts_cell hf
  have e' : v = .slice a0 len0 cap0 := by simp [Value.cells] at e; exact e.symm
  subst e'
  exact ⟨picks, h1, h2⟩
theorem cells_ints : Try.prog.cellsOf 3 = 1 := by kernel_rfl
set_option maxRecDepth 100000 in
theorem open_ints_cell {fuel : Nat} {cs : List Value} {x : DataW H × List MemPlace} (hf : DataW.trod enc Try.prog w 0 (fun _ => true) true fuel 34 cs = some x) : ∃ v picks, cs = [v] ∧ IntsAt w v picks ∧ (∀ z ∈ picks, -9223372036854775808 ≤ z ∧ z ≤ 9223372036854775807) ∧ (∀ b, v.ownBlock = some b → 0 < picks.length → b < w.heap.size) := by
  rcases open_ints Try.underlying34 Try.underlying3 cells_ints hf with ⟨rfl, _⟩ | ⟨a, len0, cap0, zs, rfl, _, hl, hc, hz, _, hcell, hwf⟩
  · exact ⟨_, [], rfl, ⟨none, 0, rfl, Nat.zero_le _, fun q => by simp at q⟩, fun z hz => by simp at hz, fun b hb q => by simp at q⟩
  · simp only [if_true] at hz
    have hlt : (zs.take len0).length = len0 := by rw [List.length_take]; omega
    have hin : ∀ z ∈ zs.take len0, -9223372036854775808 ≤ z ∧ z ≤ 9223372036854775807 := fun z hz1 => i64_of_wf (hwf z (List.mem_of_mem_take hz1))
    rcases Nat.eq_zero_or_pos len0 with rfl | hpos
    · exact ⟨_, zs.take 0, rfl, ⟨some a, cap0, by rw [hlt], by rw [hlt]; omega, fun q => by rw [hlt] at q; omega⟩, hin, fun b hb q => by rw [hlt] at q; omega⟩
    have h0 := hcell 0 (by omega)
    have e0 : a.add 0 = a := by simp [Addr.add]
    rw [e0] at h0
    have hpl := plain_addr (a := a) h0
    obtain ⟨b, off, sp⟩ := a
    obtain rfl : sp = none := by injection hpl
    refine ⟨_, zs.take len0, rfl, ⟨some ⟨b, off, none⟩, cap0, by rw [hlt], by rw [hlt]; omega, fun q => ?_⟩, hin, fun b' hb q => ?_⟩
    · refine ⟨b, off, rfl, fun i z hi => ?_⟩
      rw [List.getElem?_take] at hi
      split at hi
      · rename_i hil
        have h1 := hcell i (by omega)
        rw [add_plain] at h1
        rw [h1, List.getD_eq_getElem?_getD, hi]
        rfl
      · cases hi
    · have := World.block_lt_of_cell? w _ h0
      have hb2 : b = b' := by simpa [Value.ownBlock] using hb
      rw [← hb2]
      exact this
set_option maxRecDepth 100000 in
theorem open_ints {v : Value} {d : DataW H} {p : List MemPlace} (hval : ∃ a len cap, v = .slice a len cap) (h : DataW.Trod enc Try.prog w 0 (fun _ => true) true 34 v d p) : ∃ picks, IntsAt w v picks ∧ ∀ z ∈ picks, -9223372036854775808 ≤ z ∧ z ≤ 9223372036854775807 := by
  obtain ⟨a0, len0, cap0, rfl⟩ := hval
  obtain ⟨fuel, hf⟩ := h
  obtain ⟨v, picks, e, h1, h2, _⟩ := open_ints_cell hf
  have e' : v = .slice a0 len0 cap0 := by simp [Value.cells] at e; exact e.symm
  subst e'
  exact ⟨picks, h1, h2⟩
end
theorem wrap64_id {z : Int} (h0 : -4611686018427387904 ≤ z) (h1 : z ≤ 4611686018427387904) : wrap64 z = z := by unfold wrap64; omega
theorem wrapI_id {z : Int} (h0 : -4611686018427387904 ≤ z) (h1 : z ≤ 4611686018427387904) : IntKind.i64.wrap z = z := by simp [IntKind.wrap, IntKind.signed, IntKind.bits]; omega
theorem IntsAt.new {w w' : World} {v : Value} {zs : List Int} (h : IntsAt w v zs) {F : Nat → Prop} (f : Fr F w w') (hF : ∀ k, v.ownBlock = some k → ¬ F k) : IntsAt w' v zs := by
  obtain ⟨A, c, rfl, hc, hA⟩ := h
  refine ⟨A, c, rfl, hc, fun hp => ?_⟩
  obtain ⟨b, off, rfl, hcell⟩ := hA hp
  refine ⟨b, off, rfl, fun i z hi => ?_⟩
  have h1 := hcell i z hi
  exact (f.cell (World.block_lt_of_cell? w _ h1) (hF b rfl)).trans h1
theorem IntsAt.new0 {w w' : World} {v : Value} {zs : List Int} (h : IntsAt w v zs) (f : Fr (fun _ => False) w w') : IntsAt w' v zs := h.new f (fun _ _ q => q)
end Go.Proofs.Ythffnepfnadakaa
