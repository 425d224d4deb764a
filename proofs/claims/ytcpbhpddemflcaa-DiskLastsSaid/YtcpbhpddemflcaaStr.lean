/- Parts of a sector as texts; two disks: a write wherever, a loss of power with picks that came in, Open. -/
import Derived.Test.YtcpbhpddemflcaaLth
namespace Go.Proofs.Ytcpbhpddemflcaa
open Go.RowKit Go.Maps

theorem Blk.part {w : World} {b : Nat} {t : TypeId} {l : List UInt8} (h : Blk w b t (cellsB l).toArray) (o n : Nat) (hn : o + n ≤ l.length) : Rd w (some ⟨b, o, none⟩) n ((l.drop o).take n) := by
  refine ⟨by rw [List.length_take, List.length_drop]; omega, fun _ => ⟨_, rfl, fun j c hj => ?_⟩⟩
  have e : (⟨b, o, none⟩ : Addr).add j = ⟨b, o + j, none⟩ := add_plain b o j
  rw [e, h.cell]
  rw [List.getElem?_take] at hj
  split at hj
  · rw [List.getElem?_drop] at hj
    simp [cellsB, hj]
  · cases hj
theorem str_first {w : World} {b : Nat} {l : List UInt8} (h : Blk w b 34 (cellsB l).toArray) (hl : l.length = 128) : (convert 47 9 (.slice (some ⟨b, 0, none⟩) 64 128)).run Try.prog w = .ok (.string ⟨(l.take 64).toArray⟩) w := by
  have h1 := h.part 0 64 (by omega)
  rw [List.drop_zero] at h1
  exact conv_string (P := Try.prog) 47 9 5 h1 Try.underlying47 Try.underlying5 Try.underlying9
theorem str_second {w : World} {b : Nat} {l : List UInt8} (h : Blk w b 34 (cellsB l).toArray) (hl : l.length = 128) : (convert 47 9 (.slice (some ⟨b, 64, none⟩) 64 64)).run Try.prog w = .ok (.string ⟨(l.drop 64).toArray⟩) w := by
  have h1 := h.part 64 64 (by omega)
  rw [List.take_of_length_le (by rw [List.length_drop]; omega)] at h1
  exact conv_string (P := Try.prog) 47 9 5 h1 Try.underlying47 Try.underlying5 Try.underlying9
theorem bytes_eq (l m : List UInt8) : ((⟨l.toArray⟩ : ByteArray) = ⟨m.toArray⟩) ↔ l = m := by
  constructor
  · intro h
    injection h with h
    exact congrArg Array.toList h
  · intro h
    rw [h]
theorem str_eql (l m : List UInt8) (w : World) : (binOp .eql 9 (.string ⟨l.toArray⟩) (.string ⟨m.toArray⟩)).run Try.prog w = .ok (.bool (decide (l = m))) w := by
  have e : (l == m) = decide (l = m) := by
    rw [Bool.eq_iff_iff]
    simp
  simp [binOp, Op.stringOp, e]

section
variable {w w' : World} {B g g' : Nat} {d o : DS}
theorem One.all (h : One w B g d) {i : Nat} (hi : i < d.rd.length) : (∀ v ∈ d.vs i, v.length = 128) ∧ (d.rd.getD i []).length = 128 := by
  obtain ⟨P, ⟨R, M, D, val, k⟩, _⟩ := h
  refine ⟨k.all i hi, ?_⟩
  rw [List.getD_eq_getElem?_getD, List.getElem?_eq_getElem hi]
  exact k.hl _ (List.getElem_mem hi)
theorem one_act (h : One w B g d) (z : Int) {s : List UInt8} (hs : s.length = 128) (hN : d.most 10000) :
    Calls Try.prog 15 #[.pointer (some ⟨g, 0, none⟩), .int .i64 z, av s] w fun e w' => (∃ r, e = .returned (.int .i64 r)) ∧ One w' B g (d.act z s) ∧ Fr (fun b => B ≤ b) w w' := by
  unfold DS.act
  by_cases hz : 0 ≤ z ∧ z < (d.rd.length : Int)
  · rw [if_pos hz]
    exact (one_write h (z := z) (i := z.toNat) (by omega) (by omega) hs (hN _) rfl).mono fun e w' ⟨h1, h2⟩ => ⟨⟨_, h1⟩, h2⟩
  · rw [if_neg hz]
    exact (one_write_bad h (i := z) (by omega)).mono fun e w' ⟨h1, h2⟩ => ⟨⟨_, h1⟩, h.new h2, h2.mono (fun _ _ q => q.elim)⟩
theorem both_act (h : Both w B g g' d o) (z : Int) {s : List UInt8} (hs : s.length = 128) (hN : d.most 10000) :
    Calls Try.prog 15 #[.pointer (some ⟨g, 0, none⟩), .int .i64 z, av s] w fun e w' => (∃ r, e = .returned (.int .i64 r)) ∧ Both w' B g g' (d.act z s) o ∧ Fr (fun b => B ≤ b) w w' := by
  unfold DS.act
  by_cases hz : 0 ≤ z ∧ z < (d.rd.length : Int)
  · rw [if_pos hz]
    exact (both_write h (z := z) (i := z.toNat) (by omega) (by omega) hs (hN _) rfl).mono fun e w' ⟨h1, h2⟩ => ⟨⟨_, h1⟩, h2⟩
  · rw [if_neg hz]
    exact (one_write_bad h.one (i := z) (by omega)).mono fun e w' ⟨h1, h2⟩ => ⟨⟨_, h1⟩, h.new h2, h2.mono (fun _ _ q => q.elim)⟩
theorem both_crash_in (h : Both w B g g' d o) {vp : Value} {picks : List Int} (hp : IntsAt w vp picks) (hpF : ∀ b, vp.ownBlock = some b → 0 < picks.length → b < B) (hN : d.few 1000000) :
    Calls Try.prog 18 #[.pointer (some ⟨g, 0, none⟩), vp] w fun e w' => e = .returned (.int .i64 0) ∧ Both w' B g g' (d.crash picks) o ∧ Fr (fun b => B ≤ b) w w' := by
  obtain ⟨P, Q, ⟨⟨R, M, D, val, k1⟩, k2⟩, h2, h3⟩ := h
  refine (dcrash_pos k1 hp (fun b hb hl => ?_) hN).mono ?_
  · have h4 := hpF b hb hl
    have h5 := (k2 R k1.fR).1
    have h6 := (k2 M k1.fM).1
    exact ⟨by omega, by omega⟩
  · rintro e w1 ⟨rfl, ⟨D', j1⟩, f1⟩
    exact ⟨rfl, ⟨P, Q, DAt.of_same ⟨R, M, D', val, j1⟩ k2 f1.size, h2.keep f1 (fun b hq hp => h3 b hp hq), h3⟩, f1.mono (fun b _ hb => (k2 b hb).1)⟩
theorem one_open (h : One w B g d) : Calls Try.prog 19 #[.pointer (some ⟨g, 0, none⟩)] w fun e w' => ∃ v, e = .returned v ∧ w'.ownsRow w.heap.size 3 1 v d.openL.length ((asZ d.openL).map encZ) ∧ Fr (fun _ => False) w w' := by
  obtain ⟨P, ⟨R, M, D, val, k⟩, _⟩ := h
  exact open_any k
end
end Go.Proofs.Ytcpbhpddemflcaa
