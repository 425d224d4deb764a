/- The law WalLasts: what it needs of the log (pure). -/
import Derived.Test.YtobnfadcffhfdaaVlv
namespace Go.Proofs.Ytobnfadcffhfdaa
open Go.RowKit

theorem laid_many {body : List (List UInt8)} {c s : Nat} : ∀ {q : List (Nat × List Chg)} {a n e : Nat}, LaidAt body c s a n q e → a + q.length ≤ e
  | [], _, _, _, h => Nat.le_of_eq (Eq.symm h)
  | x :: xs, a, n, e, ⟨h1, h2, _, _, _, _, _, h8⟩ => by
    have h9 := laid_many h8
    have hb := bytes_short h1 h2
    have hn : 1 ≤ needN ((bytesR x.2).length : Nat) := by
      rw [need_many hb]
      unfold many
      omega
    rw [List.length_cons]
    omega
theorem RI.few {d : DS} {z c s e : Nat} {q : List (Nat × List Chg)} (h : RI d z c s q e) : q.length ≤ z := by
  have h1 := laid_many h.laid
  have h2 := h.says.2.2
  omega
theorem format_vs {d : DS} (h : d.free) (z : Nat) : ∀ j, (d.format z).vs j = [] := by
  have hf : d.forget.free := by
    unfold DS.forget
    split
    · exact (settle_free h 0 _).2.1
    · exact h
  exact (settle_free (settle_free hf 1 _).2.1 0 _).2.2.2
theorem RI.new {N z : Nat} (hz : z + 1 ≤ N) : (newD N).formats z = true ∧ RI ((newD N).format z) z 1 1 [] 0 := by
  obtain ⟨k1, k2⟩ := (KD.new (N := N) (by omega)).format hz
  have hb : ∀ j, 1 ≤ j → j < N → ((newD N).format z).rd[j]? = some (nought 128) := fun j h1 h2 => by
    rw [k2.bd j h1 h2]
    split <;> rfl
  have hn : ∀ k, halfOf (nought 128) k = nought 64 := fun k => by
    rcases Nat.mod_two_eq_zero_or_one k with q | q
    · rw [half_even q]; decide +kernel
    · rw [half_odd (by decide +kernel) q]; decide +kernel
  have hl : ((newD N).format z).rd.length = N := k2.ln
  have hh : ∀ k, k < 2 * z → (hdOf (hv (bodyOf ((newD N).format z) z) k)).c = 0 := fun k hk => by
    rw [body_half hk (by omega), List.getD_eq_getElem?_getD, hb _ (by omega) (by omega)]
    show (hdOf (halfOf (nought 128) k)).c = 0
    rw [hn, hd_nought]
  refine ⟨k1, format_vs ⟨rfl, rfl⟩ z, by omega, fun x hx => ?_, ⟨by rw [k2.head], Nat.le_refl _, Nat.le_refl _, by decide⟩, rfl, clean_new (Nat.le_refl _) (fun k hk => ?_), fun k hk => ?_⟩
  · obtain ⟨j, hj, e⟩ := List.getElem_of_mem hx
    have e' : ((newD N).format z).rd[j]? = some x := by rw [← e]; exact List.getElem?_eq_getElem hj
    rcases Nat.eq_zero_or_pos j with rfl | h0
    · rw [k2.hd] at e'
      injection e' with e'
      rw [← e']
      exact hdS_len _ _
    · rw [hb j h0 (by omega)] at e'
      injection e' with e'
      rw [← e']
      decide +kernel
  · rw [body_len (by omega)] at hk
    rw [hh k hk]
    omega
  · rw [hh k hk]
    omega
theorem crash_free (d : DS) (p : List Int) : (d.crash p).free := ⟨rfl, rfl⟩
end Go.Proofs.Ytobnfadcffhfdaa
