/- Numbers that a reader of package wire takes. -/
import Derived.Test.YtmjkcjllpnpgpaaRdr
import Derived.Deep.RegionWith
namespace Go.Proofs.Ytmjkcjllpnpgpaa
open Go.RowKit

/-- The number that bytes are, the highest first. -/
def numOf (l : List UInt8) : Nat := l.foldl (fun n c => n * 256 + c.toNat) 0
theorem numOf_from (l : List UInt8) : ∀ n, l.foldl (fun n c => n * 256 + c.toNat) n = n * 256 ^ l.length + numOf l := by
  induction l with
  | nil => intro n; simp [numOf]
  | cons c l ih =>
    intro n
    simp only [List.foldl_cons, List.length_cons, numOf]
    rw [ih, ih, Nat.zero_mul, Nat.zero_add, Nat.pow_succ', Nat.add_mul, Nat.mul_assoc, Nat.add_assoc]
theorem numOf_app (p q : List UInt8) : numOf (p ++ q) = numOf p * 256 ^ q.length + numOf q := by
  unfold numOf
  rw [List.foldl_append, numOf_from]
  rfl
theorem numOf_lt (l : List UInt8) : numOf l < 256 ^ l.length := by
  induction l with
  | nil => simp [numOf]
  | cons c l ih =>
    have e : c :: l = [c] ++ l := rfl
    rw [e, numOf_app]
    have hc := c.toNat_lt
    have h1 : numOf [c] = c.toNat := by simp [numOf]
    have h2 : ([c] ++ l).length = l.length + 1 := by simp
    rw [h1, h2, Nat.pow_succ']
    calc c.toNat * 256 ^ l.length + numOf l < c.toNat * 256 ^ l.length + 256 ^ l.length := by omega
      _ = (c.toNat + 1) * 256 ^ l.length := by rw [Nat.add_mul, Nat.one_mul]
      _ ≤ 256 * 256 ^ l.length := Nat.mul_le_mul_right _ (by omega)

theorem Left.then_ {w w1 w2 : World} {g : Nat} {l l' : List UInt8} {f m f' m' : Bool} (h : Left w g l f m w1) (k : Left w1 g l' f' m' w2) : Left w g l' f' m' w2 := ⟨k.1, h.2.trans k.2 (fun _ _ => id)⟩

theorem or_shift (a b k : Nat) (hb : b < 2 ^ k) (h : a * 2 ^ k + b < 18446744073709551616) : bits .or .u64 ((a : Int) * ((2 ^ k : Nat) : Int)) (b : Int) = ((a * 2 ^ k + b : Nat) : Int) := by
  have e : (a : Int) * ((2 ^ k : Nat) : Int) = ((a * 2 ^ k : Nat) : Int) := by rw [Int.natCast_mul]
  rw [e, u64_or_nat _ _ (by omega) (by omega)]
  congr 1
  rw [Nat.mul_comm, ← Nat.two_pow_add_eq_or_of_lt hb]

theorem two_any {w : World} {g : Nat} {x y : UInt8} {l : List UInt8} {f m : Bool} (h : Rr w g (x :: y :: l) f m) :
    Calls Try.prog 54 #[.pointer (some ⟨g, 0, none⟩)] w fun e w' => e = .returned (.int .u64 (numOf [x, y] : Nat)) ∧ Left w g l f m w' := by
  have hx := x.toNat_lt
  have hy := y.toNat_lt
  go_enter Try.func54, Try.ntmps54
  go_wp2_with fail
  refine (one_any h).mono ?_
  rintro e w1 ⟨rfl, h1⟩
  go_wp2_with fail
  refine (one_any h1.1).mono ?_
  rintro e w2 ⟨rfl, h2⟩
  go_wp2_with fail
  go_ret
  refine ⟨?_, h1.then_ h2⟩
  have e := or_shift x.toNat y.toNat 8 hy (by omega)
  have e2 : numOf [x, y] = x.toNat * 2 ^ 8 + y.toNat := by simp [numOf]
  rw [e2]
  exact congrArg (fun n => Ending.returned (.int .u64 n)) e

theorem twice16 {w : World} {g : Nat} {a b c d : UInt8} {l : List UInt8} {f m : Bool} (h : Rr w g (a :: b :: c :: d :: l) f m) :
    Calls Try.prog 66 #[.func (.func 54) #[.pointer (some ⟨g, 0, none⟩)] #[], .int .i64 16] w fun e w' => e = .returned (.int .u64 (numOf [a, b, c, d] : Nat)) ∧ Left w g l f m w' := by
  have hx : numOf [a, b] < 65536 := by have := numOf_lt [a, b]; simpa using this
  have hy : numOf [c, d] < 65536 := by have := numOf_lt [c, d]; simpa using this
  have e2 : numOf [a, b, c, d] = numOf [a, b] * 2 ^ 16 + numOf [c, d] := by
    have := numOf_app [a, b] [c, d]
    simpa using this
  have E2 := Lib.hid e2
  clear e2
  go_enter Try.func66, Try.ntmps66
  go_wp2_with fail
  refine (two_any h).mono ?_
  rintro e w1 ⟨rfl, h1⟩
  have h1d : Rr w1.drew g (c :: d :: l) f m := h1.1.keep (F := fun _ => False) ((Fr.refl _ _).drew) (fun _ q => q.elim)
  have hf1 := h1.2.drew
  clear h1 hy
  generalize numOf [a, b] = n at *
  have hw : IntKind.u64.wrap ((n : Int) * 65536) = (n : Int) * 65536 := by rw [wrapU]; omega
  have hy : numOf [c, d] < 65536 := by have := numOf_lt [c, d]; simpa using this
  go_wp2_with fail
  go_region_with ((go_at_call 54; refine (two_any h1d).mono ?_; rintro e w2 ⟨rfl, h2⟩))
  go_wp2
  go_ret
  refine ⟨?_, h2.1, hf1.trans h2.2 (fun _ _ => id)⟩
  have e := or_shift n (numOf [c, d]) 16 hy (by omega)
  rw [E2.out]
  exact congrArg (fun n => Ending.returned (.int .u64 n)) e

theorem four_any {w : World} {g : Nat} {a b c d : UInt8} {l : List UInt8} {f m : Bool} (h : Rr w g (a :: b :: c :: d :: l) f m) :
    Calls Try.prog 55 #[.pointer (some ⟨g, 0, none⟩)] w fun e w' => e = .returned (.int .u64 (numOf [a, b, c, d] : Nat)) ∧ Left w g l f m w' := by
  go_enter Try.func55, Try.ntmps55
  go_wp2_with fail
  refine (twice16 h).mono ?_
  rintro e w1 ⟨rfl, h1⟩
  go_wp2
  go_ret
  exact ⟨rfl, h1⟩

theorem twice32 {w : World} {g : Nat} {a b c d a' b' c' d' : UInt8} {l : List UInt8} {f m : Bool} (h : Rr w g (a :: b :: c :: d :: a' :: b' :: c' :: d' :: l) f m) :
    Calls Try.prog 66 #[.func (.func 55) #[.pointer (some ⟨g, 0, none⟩)] #[], .int .i64 32] w fun e w' => e = .returned (.int .u64 (numOf [a, b, c, d, a', b', c', d'] : Nat)) ∧ Left w g l f m w' := by
  have hx : numOf [a, b, c, d] < 4294967296 := by have := numOf_lt [a, b, c, d]; simpa using this
  have e2 : numOf [a, b, c, d, a', b', c', d'] = numOf [a, b, c, d] * 2 ^ 32 + numOf [a', b', c', d'] := by
    have := numOf_app [a, b, c, d] [a', b', c', d']
    simpa using this
  have E2 := Lib.hid e2
  clear e2
  go_enter Try.func66, Try.ntmps66
  go_wp2_with fail
  refine (four_any h).mono ?_
  rintro e w1 ⟨rfl, h1⟩
  have h1d : Rr w1.drew g (a' :: b' :: c' :: d' :: l) f m := h1.1.keep (F := fun _ => False) ((Fr.refl _ _).drew) (fun _ q => q.elim)
  have hf1 := h1.2.drew
  clear h1
  generalize numOf [a, b, c, d] = n at *
  have hw : IntKind.u64.wrap ((n : Int) * 4294967296) = (n : Int) * 4294967296 := by rw [wrapU]; omega
  have hy : numOf [a', b', c', d'] < 4294967296 := by have := numOf_lt [a', b', c', d']; simpa using this
  go_wp2_with fail
  go_region_with ((go_at_call 55; refine (four_any h1d).mono ?_; rintro e w2 ⟨rfl, h2⟩))
  go_wp2
  go_ret
  refine ⟨?_, h2.1, hf1.trans h2.2 (fun _ _ => id)⟩
  have e := or_shift n (numOf [a', b', c', d']) 32 hy (by omega)
  rw [E2.out]
  exact congrArg (fun n => Ending.returned (.int .u64 n)) e

theorem eight_any {w : World} {g : Nat} {a b c d a' b' c' d' : UInt8} {l : List UInt8} {f m : Bool} (h : Rr w g (a :: b :: c :: d :: a' :: b' :: c' :: d' :: l) f m) :
    Calls Try.prog 56 #[.pointer (some ⟨g, 0, none⟩)] w fun e w' => e = .returned (.int .u64 (numOf [a, b, c, d, a', b', c', d'] : Nat)) ∧ Left w g l f m w' := by
  go_enter Try.func56, Try.ntmps56
  go_wp2_with fail
  refine (twice32 h).mono ?_
  rintro e w1 ⟨rfl, h1⟩
  go_wp2
  go_ret
  exact ⟨rfl, h1⟩
end Go.Proofs.Ytmjkcjllpnpgpaa
