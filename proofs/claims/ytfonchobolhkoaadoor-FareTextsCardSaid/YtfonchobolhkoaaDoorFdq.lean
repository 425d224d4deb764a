/- The numbers of math/bits' Div64 as its walk writes them: pure. -/
import Derived.Test.YtfonchobolhkoaaDoorFdp
import Derived.Test.YtfonchobolhkoaaDoorLpf
namespace Go.Proofs.YtfonchobolhkoaaDoor
open Go.RowKit

theorem bl_spec : ∀ (f x : Nat), x ≠ 0 → x < 2 ^ f → 0 < Lib.bitLenAux f x ∧ Lib.bitLenAux f x ≤ f ∧ 2 ^ (Lib.bitLenAux f x - 1) ≤ x ∧ x < 2 ^ Lib.bitLenAux f x
  | 0, x, h0, hx => by simp at hx; omega
  | f + 1, x, h0, hx => by
    simp only [Lib.bitLenAux, if_neg h0]
    by_cases h1 : x / 2 = 0
    · have h2 : x = 1 := by omega
      subst h2
      have : Lib.bitLenAux f (1 / 2) = 0 := by
        cases f <;> simp [Lib.bitLenAux]
      rw [this]
      simp
    · obtain ⟨a, b, c, d⟩ := bl_spec f (x / 2) h1 (by rw [Nat.pow_succ] at hx; omega)
      obtain ⟨k, hk⟩ : ∃ k, Lib.bitLenAux f (x / 2) = k + 1 := ⟨Lib.bitLenAux f (x / 2) - 1, by omega⟩
      rw [hk] at b c d ⊢
      rw [Nat.add_sub_cancel] at c
      refine ⟨by omega, by omega, ?_, ?_⟩
      · rw [Nat.add_sub_cancel_left, Nat.pow_succ]
        omega
      · rw [Nat.add_comm, Nat.pow_succ]
        omega
/-- How far a divisor is moved up. -/
theorem lz_spec {y : Nat} (h0 : 0 < y) (hy : y < 18446744073709551616) : ∃ s : Nat, s ≤ 63 ∧ (64 - (Lib.bitLen y : Int)) = (s : Int) ∧ 9223372036854775808 ≤ y * 2 ^ s ∧ y * 2 ^ s < 18446744073709551616 := by
  obtain ⟨a, b, c, d⟩ := bl_spec 64 y (by omega) (by have : (2 : Nat) ^ 64 = 18446744073709551616 := rfl; omega)
  have e : Lib.bitLen y = Lib.bitLenAux 64 y := rfl
  rw [← e] at a b c d
  obtain ⟨k, hk⟩ : ∃ k, k = Lib.bitLen y := ⟨_, rfl⟩
  rw [← hk] at a b c d ⊢
  have p1 : 2 ^ (k - 1) * 2 ^ (64 - k) = 9223372036854775808 := by rw [← Nat.pow_add, show k - 1 + (64 - k) = 63 by omega]
  have p2 : 2 ^ k * 2 ^ (64 - k) = 18446744073709551616 := by rw [← Nat.pow_add, show k + (64 - k) = 64 by omega]
  have hp : 0 < 2 ^ (64 - k) := Nat.two_pow_pos _
  refine ⟨64 - k, by omega, by omega, ?_, ?_⟩
  · rw [← p1]
    exact Nat.mul_le_mul_right _ c
  · rw [← p2]
    exact Nat.mul_lt_mul_of_pos_right d hp
/-- What the dividend's two words become. -/
theorem dv_nums {hi lo y s : Nat} (hl : lo < 18446744073709551616) (hhy : hi < y) (hs : s ≤ 63) (hY : y * 2 ^ s < 18446744073709551616) :
    (hi * 2 ^ s + lo / 2 ^ (64 - s)) * 18446744073709551616 + lo * 2 ^ s % 18446744073709551616 = (hi * 18446744073709551616 + lo) * 2 ^ s ∧
    hi * 2 ^ s + lo / 2 ^ (64 - s) < y * 2 ^ s ∧ lo / 2 ^ (64 - s) < 2 ^ s := by
  have hp : 0 < 2 ^ s := Nat.two_pow_pos s
  have hpp : 2 ^ (64 - s) * 2 ^ s = 18446744073709551616 := by rw [← Nat.pow_add, show 64 - s + s = 64 by omega]
  have hd : lo / 2 ^ (64 - s) = lo * 2 ^ s / 18446744073709551616 := by
    rw [← hpp, Nat.mul_div_mul_right _ _ hp]
  have hlt : lo / 2 ^ (64 - s) < 2 ^ s := by
    rw [Nat.div_lt_iff_lt_mul (Nat.two_pow_pos _), Nat.mul_comm, hpp]
    exact hl
  refine ⟨?_, ?_, hlt⟩
  · rw [hd, Nat.add_mul, Nat.add_mul]
    have := Nat.div_add_mod (lo * 2 ^ s) 18446744073709551616
    have e : hi * 2 ^ s * 18446744073709551616 = hi * 18446744073709551616 * 2 ^ s := Nat.mul_right_comm _ _ _
    rw [e]
    omega
  · have : (hi + 1) * 2 ^ s ≤ y * 2 ^ s := Nat.mul_le_mul_right _ hhy
    rw [Nat.add_mul, Nat.one_mul] at this
    omega
theorem w64 {a : Nat} (h : a < 18446744073709551616) : IntKind.u64.wrap (a : Int) = (a : Int) := by rw [IntKind.wrap_u64]; omega
theorem shl_w {a s : Nat} (h : a * 2 ^ s < 18446744073709551616) : IntKind.u64.wrap ((a : Int) * 2 ^ s) = ((a * 2 ^ s : Nat) : Int) := by
  have e : (a : Int) * 2 ^ s = ((a * 2 ^ s : Nat) : Int) := by push_cast; rfl
  rw [e]
  exact w64 h
theorem shl_m (a s : Nat) : IntKind.u64.wrap ((a : Int) * 2 ^ s) = ((a * 2 ^ s % 18446744073709551616 : Nat) : Int) := by
  have e : (a : Int) * 2 ^ s = ((a * 2 ^ s : Nat) : Int) := by push_cast; rfl
  rw [e, IntKind.wrap_u64]
  omega
theorem or_w {a b s : Nat} (hb : b < 2 ^ s) (h : a * 2 ^ s + b < 18446744073709551616) : bits .or .u64 ((a * 2 ^ s : Nat) : Int) (b : Int) = ((a * 2 ^ s + b : Nat) : Int) := by
  have h1 := bits_or_u64_nat (a * 2 ^ s) b (by omega) (by omega)
  rw [h1, Nat.mul_comm, ← Nat.two_pow_add_eq_or_of_lt hb]
theorem sub_w {a b : Nat} (h : b ≤ a) (ha : a < 18446744073709551616) : IntKind.u64.wrap ((a : Int) - (b : Int)) = ((a - b : Nat) : Int) := by
  rw [show (a : Int) - (b : Int) = ((a - b : Nat) : Int) by omega]
  exact w64 (by omega)
/-- What is left, as the walk writes it: the words' overflow does not matter. -/
theorem rest_w {u u1 P R : Nat} (h : u * 4294967296 + u1 = P + R) (hR : R < 18446744073709551616) : IntKind.u64.wrap (IntKind.u64.wrap (IntKind.u64.wrap ((u : Int) * 4294967296) + (u1 : Int)) - IntKind.u64.wrap (P : Int)) = (R : Int) := by
  simp only [IntKind.wrap_u64]
  omega
end Go.Proofs.YtfonchobolhkoaaDoor
