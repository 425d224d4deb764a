/- A long division of two words by one, as math/bits does it: pure. -/
import Derived.Test.YtfonchobolhkoaaDoorFsm
namespace Go.Proofs.YtfonchobolhkoaaDoor

/-- One digit of a long division: the trial digit is not below the true one. -/
theorem dv_bound {y y1 y0 u u1 q r B : Nat} (hy : y = y1 * B + y0) (hq : q * y1 + r = u) (h : ¬ (B * r + u1 < q * y0)) : q * y ≤ u * B + u1 := by
  subst hy hq
  have e1 : q * (y1 * B + y0) = q * y1 * B + q * y0 := by rw [Nat.mul_add, Nat.mul_assoc]
  have e2 : (q * y1 + r) * B = q * y1 * B + B * r := by rw [Nat.add_mul, Nat.mul_comm r B]
  rw [e1, e2]; omega
theorem dv_over {y y1 y0 u u1 q r B : Nat} (hy : y = y1 * B + y0) (hq : q * y1 + r = u) (h : B * r + u1 < q * y0) : u * B + u1 < q * y := by
  subst hy hq
  have e1 : q * (y1 * B + y0) = q * y1 * B + q * y0 := by rw [Nat.mul_add, Nat.mul_assoc]
  have e2 : (q * y1 + r) * B = q * y1 * B + B * r := by rw [Nat.add_mul, Nat.mul_comm r B]
  rw [e1, e2]; omega
theorem dv_lt {y u u1 B : Nat} (h : u < y) (h1 : u1 < B) : (u * B + u1) / y < B := by
  rw [Nat.div_lt_iff_lt_mul (by omega)]
  have : (u + 1) * B ≤ y * B := Nat.mul_le_mul_right B (by omega)
  rw [Nat.add_mul, Nat.one_mul] at this
  rw [Nat.mul_comm B y]; omega
theorem dv_first {y y1 y0 u u1 B : Nat} (hy : y = y1 * B + y0) (h1 : 0 < y1) (hu : u1 < B) : (u * B + u1) / y ≤ u / y1 := by
  have hB : 0 < B := by omega
  have hy0 : 0 < y := by
    have := Nat.mul_pos h1 hB
    omega
  have e : u / y1 = (u * B + u1) / (y1 * B) := by
    rw [Nat.mul_comm y1 B, ← Nat.div_div_eq_div_mul, Nat.add_comm, Nat.add_mul_div_right _ _ hB, Nat.div_eq_of_lt hu, Nat.zero_add]
  rw [e]
  exact Nat.div_le_div_left (by omega) (Nat.mul_pos h1 hB)
theorem dv_top {y y1 y0 u B : Nat} (hy : y = y1 * B + y0) (h0 : y0 < B) (h1 : B ≤ 2 * y1) (hu : u < y) : u / y1 ≤ B + 1 := by
  have : u / y1 < B + 2 := by
    rw [Nat.div_lt_iff_lt_mul (by omega), Nat.mul_comm, Nat.mul_add]
    omega
  omega
/-- What the loop over a trial digit keeps. -/
structure DvI (y y1 y0 u u1 q r : Nat) : Prop where
  eq : q * y1 + r = u
  ge : (u * 4294967296 + u1) / y ≤ q
  le : q ≤ 4294967297
  lt : r < 4294967296
structure DvH (y y1 y0 u u1 : Nat) : Prop where
  hy : y = y1 * 4294967296 + y0
  h0 : y0 < 4294967296
  h1 : y1 < 4294967296
  hh : 2147483648 ≤ y1
  hu : u < y
  hl : u1 < 4294967296
theorem DvI.new {y y1 y0 u u1 : Nat} (h : DvH y y1 y0 u u1) : DvI y y1 y0 u u1 (u / y1) (u - u / y1 * y1) := by
  have e := Nat.div_add_mod u y1
  have hm := Nat.mod_lt u (show 0 < y1 by have := h.hh; omega)
  rw [Nat.mul_comm] at e
  have hs : u - u / y1 * y1 = u % y1 := by omega
  rw [hs]
  exact ⟨e, dv_first h.hy (by have := h.hh; omega) h.hl, dv_top h.hy h.h0 (by have := h.hh; omega) h.hu, by have := h.h1; omega⟩
theorem DvI.stop {y y1 y0 u u1 q r : Nat} (h : DvH y y1 y0 u u1) (i : DvI y y1 y0 u u1 q r) (ht : ¬ (4294967296 * r + u1 < q * y0)) : q = (u * 4294967296 + u1) / y := by
  have hy0 : 0 < y := by have := h.hu; omega
  exact Nat.le_antisymm ((Nat.le_div_iff_mul_le hy0).2 (dv_bound h.hy i.eq ht)) i.ge
theorem DvI.down {y y1 y0 u u1 q r : Nat} (h : DvH y y1 y0 u u1) (i : DvI y y1 y0 u u1 q r) (ht : 4294967296 ≤ q ∨ 4294967296 * r + u1 < q * y0) : (u * 4294967296 + u1) / y < q := by
  have hy0 : 0 < y := by have := h.hu; omega
  rcases ht with ht | ht
  · exact Nat.lt_of_lt_of_le (dv_lt h.hu h.hl) ht
  · exact (Nat.div_lt_iff_lt_mul hy0).2 (dv_over h.hy i.eq ht)
theorem DvI.pos {y y1 y0 u u1 q r : Nat} (h : DvH y y1 y0 u u1) (i : DvI y y1 y0 u u1 q r) (ht : 4294967296 ≤ q ∨ 4294967296 * r + u1 < q * y0) : 0 < q := by
  exact Nat.lt_of_le_of_lt (Nat.zero_le _) (i.down h ht)
theorem DvI.step {y y1 y0 u u1 q r : Nat} (h : DvH y y1 y0 u u1) (i : DvI y y1 y0 u u1 q r) (ht : 4294967296 ≤ q ∨ 4294967296 * r + u1 < q * y0) (hr : r + y1 < 4294967296) : DvI y y1 y0 u u1 (q - 1) (r + y1) := by
  have hd := i.down h ht
  have hp := i.pos h ht
  refine ⟨?_, Nat.le_sub_one_of_lt hd, by have := i.le; omega, hr⟩
  have he := i.eq
  have hq : q = (q - 1) + 1 := by omega
  rw [hq, Nat.add_mul, Nat.one_mul] at he
  omega
theorem DvI.leave {y y1 y0 u u1 q r : Nat} (h : DvH y y1 y0 u u1) (i : DvI y y1 y0 u u1 q r) (ht : 4294967296 ≤ q ∨ 4294967296 * r + u1 < q * y0) (hr : 4294967296 ≤ r + y1) : q - 1 = (u * 4294967296 + u1) / y := by
  have hd := i.down h ht
  have hp := i.pos h ht
  have hy0 : 0 < y := by have := h.hu; omega
  have he := i.eq
  have hq : q = (q - 1) + 1 := by omega
  rw [hq, Nat.add_mul, Nat.one_mul] at he
  have hb : ¬ (4294967296 * (r + y1) + u1 < (q - 1) * y0) := by
    have h1 : (q - 1) * y0 ≤ 4294967296 * y0 := Nat.mul_le_mul_right _ (by have := i.le; omega)
    have := h.h0
    omega
  exact Nat.le_antisymm ((Nat.le_div_iff_mul_le hy0).2 (dv_bound (q := q - 1) (r := r + y1) h.hy (by omega) hb)) (Nat.le_sub_one_of_lt hd)
/-- The loop's products fit in a word. -/
theorem DvI.fits {y y1 y0 u u1 q r : Nat} (h : DvH y y1 y0 u u1) (i : DvI y y1 y0 u u1 q r) : q * y0 < 18446744073709551616 ∧ 4294967296 * r + u1 < 18446744073709551616 := by
  refine ⟨?_, ?_⟩
  · have h1 : q * y0 ≤ 4294967297 * y0 := Nat.mul_le_mul_right _ i.le
    have := h.h0
    omega
  · have := i.lt
    have := h.hl
    omega
/-- What is left behind a digit. -/
theorem dv_rest {y u u1 q : Nat} (hq : q = (u * 4294967296 + u1) / y) : q * y + (u * 4294967296 + u1) % y = u * 4294967296 + u1 := by
  subst hq
  have := Nat.div_add_mod (u * 4294967296 + u1) y
  rw [Nat.mul_comm y] at this
  exact this
/-- Two digits of a long division. -/
theorem dv_twoB {y U u0 B : Nat} (hy : 0 < y) :
    U / y * B + (U % y * B + u0) / y = (U * B + u0) / y ∧ (U % y * B + u0) % y = (U * B + u0) % y := by
  have e := Nat.div_add_mod U y
  have e2 : U * B + u0 = (U % y * B + u0) + y * (U / y * B) := by
    have : (y * (U / y) + U % y) * B = U * B := by rw [e]
    rw [Nat.add_mul, Nat.mul_assoc] at this
    rw [← this]
    generalize y * (U / y * B) = b
    generalize U % y * B = c
    omega
  rw [e2, Nat.add_mul_div_left _ _ hy, Nat.add_mul_mod_self_left]
  exact ⟨Nat.add_comm _ _, rfl⟩
theorem dv_two {y u u1 u0 : Nat} (hy : 0 < y) :
    (u * 4294967296 + u1) / y * 4294967296 + ((u * 4294967296 + u1) % y * 4294967296 + u0) / y = ((u * 4294967296 + u1) * 4294967296 + u0) / y ∧
    ((u * 4294967296 + u1) % y * 4294967296 + u0) % y = ((u * 4294967296 + u1) * 4294967296 + u0) % y := dv_twoB hy
theorem dv_scale {n y : Nat} (s : Nat) : (n * 2 ^ s) / (y * 2 ^ s) = n / y ∧ (n * 2 ^ s) % (y * 2 ^ s) / 2 ^ s = n % y := by
  have hp : 0 < 2 ^ s := Nat.two_pow_pos s
  refine ⟨Nat.mul_div_mul_right _ _ hp, ?_⟩
  rw [Nat.mul_mod_mul_right, Nat.mul_div_cancel _ hp]
end Go.Proofs.YtfonchobolhkoaaDoor
