/- wal: a disk without a fuse formatted, and what a loss of power leaves of it (pure). -/
import Derived.Test.YtjdbgojnpnlblaaGreatVzw
namespace Go.Proofs.YtjdbgojnpnlblaaGreat
open Go.RowKit

theorem format_free {d : DS} (h : d.free) {z : Nat} (hz : z + 1 ≤ d.rd.length) : d.formats z = true ∧ (d.format z).free ∧ (d.format z).rd.length = d.rd.length ∧ (∀ j, (d.format z).vs j = []) ∧ ∀ j, j < d.rd.length → (d.format z).rd[j]? = if j = 0 then some (hdS 1 1) else if j ≤ z then some (nought 128) else d.rd[j]? := by
  have hf : d.forget.free ∧ d.forget.rd.length = d.rd.length ∧ ∀ j, 1 ≤ j → d.forget.rd[j]? = d.rd[j]? := by
    unfold DS.forget
    split
    · have q := settle_free h 0 [hdS (cntOf d.head + 1) (cntOf d.head + 1)]
      refine ⟨q.2.1, by rw [q.2.2.1, layL_len], fun j hj => ?_⟩
      rw [q.2.2.1, layL_out (by simp; omega)]
    · exact ⟨h, rfl, fun j _ => rfl⟩
  have q1 := settle_free hf.1 1 (List.replicate z (nought 128))
  have q2 := settle_free q1.2.1 0 [hdS 1 1]
  have e1 : ((d.forget.settle 1 (List.replicate z (nought 128))).rd).length = d.rd.length := by rw [q1.2.2.1, layL_len, hf.2.1]
  refine ⟨q2.1, q2.2.1, ?_, q2.2.2.2, fun j hj => ?_⟩
  · show ((d.forget.settle 1 (List.replicate z (nought 128))).settle 0 [hdS 1 1]).rd.length = _
    rw [q2.2.2.1, layL_len, e1]
  · show ((d.forget.settle 1 (List.replicate z (nought 128))).settle 0 [hdS 1 1]).rd[j]? = _
    rw [q2.2.2.1]
    by_cases h0 : j = 0
    · subst h0
      rw [if_pos rfl]
      have := layL_in (l := (d.forget.settle 1 (List.replicate z (nought 128))).rd) (i := 0) (ss := [hdS 1 1]) (j := 0) (by rw [e1]; simp; omega) (by simp)
      simpa using this
    · rw [if_neg h0, layL_out (by simp; omega), q1.2.2.1]
      by_cases hjz : j ≤ z
      · rw [if_pos hjz]
        have := layL_in (l := d.forget.rd) (i := 1) (ss := List.replicate z (nought 128)) (j := j - 1) (by rw [hf.2.1]; simp; omega) (by simp; omega)
        rw [show 1 + (j - 1) = j by omega] at this
        rw [this, List.getElem?_replicate, if_pos (by omega)]
      · rw [if_neg hjz, layL_out (by simp; omega)]
        exact hf.2.2 j (by omega)
theorem acrash_pos {w : World} {B g : Nat} {P : Nat → Prop} {d : DS} (h : DAt w B P g d) {vp : Value} {picks : List Int} (hp : IntsAt w vp picks) (hpF : ∀ b, vp.ownBlock = some b → 0 < picks.length → ¬ P b) (hN : d.most 1000000) :
    Calls Tryz.prog 32 #[.pointer (some ⟨g, 0, none⟩), vp] w fun e w' => e = .returned (.int .i64 0) ∧ DAt w' B P g (d.crash picks) ∧ Fr P w w' := by
  obtain ⟨⟨R, M, D, val, k1⟩, k2⟩ := h
  refine (dcrash_pos k1 hp (fun b hb q => ⟨fun e => hpF b hb q (e ▸ k1.fR), fun e => hpF b hb q (e ▸ k1.fM)⟩) (fun i _ => hN i)).mono ?_
  rintro e w1 ⟨rfl, ⟨D', j1⟩, f1⟩
  exact ⟨rfl, DAt.of_same ⟨R, M, D', val, j1⟩ k2 f1.size, f1⟩
theorem crash_flat {d : DS} (h : ∀ j, d.vs j = []) (picks : List Int) : (d.crash picks).rd = d.rd ∧ (d.crash picks).free ∧ ∀ j, (d.crash picks).vs j = [] := by
  have h0 : d.openL = [] := by
    refine List.eq_nil_iff_forall_not_mem.2 fun i hi => ?_
    exact (DS.openL_mem.1 hi).2 (h i)
  have h1 : d.pairs picks = [] := by unfold DS.pairs; rw [h0]; rfl
  unfold DS.crash
  rw [h1]
  exact ⟨rfl, ⟨rfl, rfl⟩, h⟩
/-- The first k of them noughts. -/
def zerod (l : List (List UInt8)) (k : Nat) : List (List UInt8) := List.replicate k (nought 128) ++ l.drop k
theorem zerod_len {l : List (List UInt8)} {k : Nat} (h : k ≤ l.length) : (zerod l k).length = l.length := by simp [zerod]; omega
theorem zerod_at {l : List (List UInt8)} {k : Nat} (h : k ≤ l.length) (j : Nat) : (zerod l k)[j]? = if j < k then some (nought 128) else l[j]? := by
  unfold zerod
  split
  · rename_i q
    rw [List.getElem?_append_left (by simp; exact q), List.getElem?_replicate, if_pos q]
  · rename_i q
    rw [List.getElem?_append_right (by simp; omega), List.length_replicate, List.getElem?_drop]
    congr 1
    omega
theorem zerod_succ {l : List (List UInt8)} {k : Nat} (h : k < l.length) : (zerod l k).set k (nought 128) = zerod l (k + 1) := by
  apply List.ext_getElem?
  intro j
  rw [zerod_at (by omega)]
  by_cases e : k = j
  · subst e
    rw [List.getElem?_set_self (by rw [zerod_len (by omega)]; exact h), if_pos (by omega)]
  · rw [List.getElem?_set_ne e, zerod_at (by omega)]
    by_cases q : j < k
    · rw [if_pos q, if_pos (by omega)]
    · rw [if_neg q, if_neg (by omega)]
theorem format_is {d : DS} (h : d.free) {z : Nat} (hz : z + 1 ≤ d.rd.length) : (zerod d.rd (z + 1)).set 0 (hdS 1 1) = (d.format z).rd := by
  obtain ⟨_, _, q2, _, q3⟩ := format_free h hz
  apply List.ext_getElem?
  intro j
  by_cases hj : j < d.rd.length
  · rw [q3 j hj]
    by_cases e : 0 = j
    · subst e
      rw [List.getElem?_set_self (by rw [zerod_len hz]; exact hj), if_pos rfl]
    · rw [List.getElem?_set_ne e, zerod_at hz, if_neg (show ¬ j = 0 from fun q => e q.symm)]
      by_cases q : j ≤ z
      · rw [if_pos q, if_pos (by omega)]
      · rw [if_neg q, if_neg (by omega)]
  · rw [List.getElem?_eq_none (by rw [List.length_set, zerod_len hz]; omega), List.getElem?_eq_none (by omega)]
end Go.Proofs.YtjdbgojnpnlblaaGreat
