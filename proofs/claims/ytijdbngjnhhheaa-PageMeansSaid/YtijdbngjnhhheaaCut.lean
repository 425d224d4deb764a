/- Slices of bytes, cut. -/
import Derived.Test.YtijdbngjnhhheaaBase
namespace Go.Proofs.Ytijdbngjnhhheaa
open Go.RowKit

/-- 's[k:]' of bytes. -/
theorem slice_from {P : Program} {t : TypeId} (ht : P.underlying t = some (.slice (P.elem t))) (hz : ∀ w, (sizeOf (P.elem t)).run P w = .ok 1 w)
    {w : World} {A : Option Addr} {n c : Nat} {l : List UInt8} (hr : Rd w A n l) (hnc : n ≤ c) (hA : A = none → c = 0) (k : Nat) (hk : k ≤ n) :
    ∃ A', (∀ W, (Instr.slice t (.slice A n c) (some (.int .i64 (k : Int))) none none).run P W = .ok (.slice A' (n - k) (c - k)) W) ∧ Rd w A' (n - k) (l.drop k) ∧ (A' = none → c - k = 0) ∧
      (∀ ad', A' = some ad' → ∃ ad, A = some ad ∧ ad'.block = ad.block) := by
  refine ⟨_, fun W => ?_, hr.drop hk hnc, ?_, ?_⟩
  · rw [run_slice_l W t A n c ht .i64 k (by omega) (by omega), hz]
    simp [Result.andThen, sliced]
  · split
    · intro _; omega
    · intro h
      have := hA (by cases A <;> simp_all)
      omega
  · intro ad' h
    split at h
    · exact ⟨ad', h, rfl⟩
    · cases A with
      | none => cases h
      | some ad => exact ⟨ad, rfl, by simp at h; rw [← h, add_block]⟩

/-- 's[:k]' of bytes. -/
theorem slice_to {P : Program} {t : TypeId} (ht : P.underlying t = some (.slice (P.elem t))) (hz : ∀ w, (sizeOf (P.elem t)).run P w = .ok 1 w)
    {w : World} {A : Option Addr} {n c : Nat} {l : List UInt8} (hr : Rd w A n l) (hnc : n ≤ c) (k : Nat) (hk : k ≤ n) :
    (∀ W, (Instr.slice t (.slice A n c) none (some (.int .i64 (k : Int))) none).run P W = .ok (.slice A k c) W) ∧ Rd w A k (l.take k) := by
  refine ⟨fun W => ?_, hr.take hk⟩
  rw [run_slice_h W t A n c ht .i64 k (by omega) (by omega), hz]
  have h0 : A.map (fun x => x.add 0) = A := by cases A <;> simp [Addr.add]
  simp [Result.andThen, sliced, h0]
end Go.Proofs.Ytijdbngjnhhheaa
