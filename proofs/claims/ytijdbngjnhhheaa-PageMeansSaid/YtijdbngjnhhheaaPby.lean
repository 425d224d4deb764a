/- Bytes: numbers, the highest byte first; bytes laid over others. It speaks of no program. -/
import Derived.Test.YtijdbngjnhhheaaBase
namespace Go.Proofs.Ytijdbngjnhhheaa
open Go.RowKit

def nought (n : Nat) : List UInt8 := List.replicate n 0
theorem nought_len (n : Nat) : (nought n).length = n := by simp [nought]
/-- Bytes with others laid over them. -/
def patch (l : List UInt8) (o : Nat) (m : List UInt8) : List UInt8 := l.take o ++ (m ++ l.drop (o + m.length))
theorem patch_len {l m : List UInt8} {o : Nat} (h : o + m.length ≤ l.length) : (patch l o m).length = l.length := by
  simp [patch]; omega
theorem patch_all {l m : List UInt8} (h : l.length = m.length) : patch l 0 m = m := by
  simp [patch, ← h]
/-- A number's bytes, the highest first. -/
def be (x s : Nat) : List UInt8 := (List.range s).map fun k => UInt8.ofNat (x / 256 ^ (s - 1 - k) % 256)
theorem be_len (x s : Nat) : (be x s).length = s := by simp [be]
theorem pow8 (j : Nat) : (2 : Int) ^ (8 * j) = ((256 ^ j : Nat) : Int) := by
  have h : (2 : Nat) ^ (8 * j) = 256 ^ j := by rw [Nat.pow_mul]
  rw [← h]; simp
theorem shr_byte (x j : Nat) : (x : Int) / 2 ^ (8 * j) % 256 = ((UInt8.ofNat (x / 256 ^ j % 256)).toNat : Int) := by
  rw [pow8, UInt8.toNat_ofNat']
  have h3 : ((x : Int) / ((256 ^ j : Nat) : Int)) = ((x / 256 ^ j : Nat) : Int) := by simp
  rw [h3]
  generalize x / 256 ^ j = y
  omega
theorem be_at (x s k : Nat) (hk : k < s) : (be x s).take (k + 1) = (be x s).take k ++ [UInt8.ofNat (x / 256 ^ (s - 1 - k) % 256)] := by
  rw [List.take_succ_eq_append_getElem (by rw [be_len]; exact hk)]
  simp [be]

/-- The number that bytes are, the highest first. -/
def numOf (l : List UInt8) : Nat := l.foldl (fun n c => n * 256 + c.toNat) 0
theorem numOf_from (l : List UInt8) : ∀ n, l.foldl (fun n c => n * 256 + c.toNat) n = n * 256 ^ l.length + numOf l := by
  induction l with
  | nil => intro n; simp [numOf]
  | cons c l ih =>
    intro n
    simp only [List.foldl_cons, List.length_cons, numOf]
    rw [ih, ih, Nat.zero_mul, Nat.zero_add, Nat.pow_succ', Nat.add_mul, Nat.mul_assoc, Nat.add_assoc]
theorem numOf_app (p q : List UInt8) : numOf (p ++ q) = numOf p * 256 ^ q.length + numOf q := by
  unfold numOf
  rw [List.foldl_append, numOf_from]
  rfl
theorem numOf_lt (l : List UInt8) : numOf l < 256 ^ l.length := by
  induction l with
  | nil => simp [numOf]
  | cons c l ih =>
    have e : c :: l = [c] ++ l := rfl
    rw [e, numOf_app]
    have hc := c.toNat_lt
    have h1 : numOf [c] = c.toNat := by simp [numOf]
    have h2 : ([c] ++ l).length = l.length + 1 := by simp
    rw [h1, h2, Nat.pow_succ']
    calc c.toNat * 256 ^ l.length + numOf l < c.toNat * 256 ^ l.length + 256 ^ l.length := by omega
      _ = (c.toNat + 1) * 256 ^ l.length := by rw [Nat.add_mul, Nat.one_mul]
      _ ≤ 256 * 256 ^ l.length := Nat.mul_le_mul_right _ (by omega)

theorem numOf_be : ∀ {s x : Nat}, x < 256 ^ s → numOf (be x s) = x
  | 0, x, h => by
    have : x = 0 := by simpa using h
    subst this; rfl
  | s + 1, x, h => by
    have e : be x (s + 1) = be (x / 256) s ++ [UInt8.ofNat (x % 256)] := by
      unfold be
      rw [List.range_succ, List.map_append]
      congr 1
      · refine List.map_congr_left fun k hk => ?_
        have hk' := List.mem_range.1 hk
        have e1 : s + 1 - 1 - k = s - 1 - k + 1 := by omega
        rw [e1, Nat.pow_succ', Nat.div_div_eq_div_mul]
      · simp
    rw [e, numOf_app, numOf_be (by rw [Nat.div_lt_iff_lt_mul (by omega)]; rwa [Nat.pow_succ] at h)]
    have h1 : numOf [UInt8.ofNat (x % 256)] = x % 256 := by simp [numOf]
    rw [h1]
    simp
    omega
theorem be_two (x : Nat) : be x 2 = [UInt8.ofNat (x / 256 % 256), UInt8.ofNat (x % 256)] := by simp [be, List.range, List.range.loop]
theorem patch_snoc {l m : List UInt8} {q : UInt8} {o : Nat} (h : o + m.length < l.length) : (patch l o m).set (o + m.length) q = patch l o (m ++ [q]) := by
  unfold patch
  have h1 : (l.take o).length = o := by rw [List.length_take]; omega
  rw [List.set_append_right _ _ (by omega), h1, List.set_append_right _ _ (by omega)]
  rw [List.drop_eq_getElem_cons h]
  simp [Nat.add_assoc, Nat.add_sub_cancel_left]
end Go.Proofs.Ytijdbngjnhhheaa
