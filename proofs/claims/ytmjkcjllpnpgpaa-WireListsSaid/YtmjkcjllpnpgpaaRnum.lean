/- What a reader of package wire takes: Number, Int, Flag, Count. -/
import Derived.Test.YtmjkcjllpnpgpaaTak
namespace Go.Proofs.Ytmjkcjllpnpgpaa
open Go.RowKit

/-- Number: what is answered, what is left, has it failed? -/
def tkOk (l : List UInt8) (s : Int) : Bool := maySz s && decide (s ≤ l.length)
def tkNum (l : List UInt8) (s : Int) : Nat := if tkOk l s then numOf (l.take s.toNat) else 0
def tkRest (l : List UInt8) (s : Int) : List UInt8 := if tkOk l s then l.drop s.toNat else []

theorem rfail_left {w : World} {g : Nat} {l : List UInt8} {f m : Bool} (h : Rr w g l f m) :
    Calls Try.prog 21 #[.pointer (some ⟨g, 0, none⟩)] w fun e w' => e = .returned (.tuple #[]) ∧ Left w g [] true m w' := rfail_any h

theorem rnumber_nil (w : World) (s : Int) : Calls Try.prog 30 #[.pointer none, .int .i64 s] w fun e w' => e = .returned (.int .u64 0) ∧ w = w' := by
  cases hm : maySz s with
  | false =>
    have hm' := Lib.hid hm
    clear hm
    go_enter Try.func30, Try.ntmps30
    go_wp2_with fail
    refine (maySize_no s hm'.out _).mono ?_
    rintro e w' ⟨rfl, rfl⟩
    go_wp2_with fail
    refine (rfail_nil _).mono ?_
    rintro e w' ⟨rfl, rfl⟩
    go_wp2
    go_ret
    exact ⟨rfl, rfl⟩
  | true =>
    have hm' := Lib.hid hm
    clear hm
    go_enter Try.func30, Try.ntmps30
    go_wp2_with fail
    refine (maySize_yes s hm'.out _).mono ?_
    rintro e w' ⟨rfl, rfl⟩
    go_wp2_with fail
    refine (has_nil _ _).mono ?_
    rintro e w' ⟨rfl, rfl⟩
    go_wp2_with fail
    refine (rfail_nil _).mono ?_
    rintro e w' ⟨rfl, rfl⟩
    go_wp2
    go_ret
    exact ⟨rfl, rfl⟩

theorem rnumber_fail {w : World} {g : Nat} {l : List UInt8} {f m : Bool} (h : Rr w g l f m) (s : Int) (ht : tkOk l s = false) :
    Calls Try.prog 30 #[.pointer (some ⟨g, 0, none⟩), .int .i64 s] w fun e w' => e = .returned (.int .u64 0) ∧ Left w g [] true m w' := by
  cases hm : maySz s with
  | false =>
    have hm' := Lib.hid hm
    clear hm ht
    go_enter Try.func30, Try.ntmps30
    go_wp2_with fail
    refine (maySize_no s hm'.out _).mono ?_
    rintro e w' ⟨rfl, rfl⟩
    go_wp2_with fail
    refine (rfail_left h).mono ?_
    rintro e w' ⟨rfl, h1⟩
    go_wp2
    go_ret
    exact ⟨rfl, h1⟩
  | true =>
    have hm' := Lib.hid hm
    have hl : (l.length : Int) < s := by simpa [tkOk, hm] using ht
    clear hm ht
    go_enter Try.func30, Try.ntmps30
    go_wp2_with fail
    refine (maySize_yes s hm'.out _).mono ?_
    rintro e w' ⟨rfl, rfl⟩
    go_wp2_with fail
    refine (has_no h s hl).mono ?_
    rintro e w' ⟨rfl, rfl⟩
    go_wp2_with fail
    refine (rfail_left h).mono ?_
    rintro e w' ⟨rfl, h1⟩
    go_wp2
    go_ret
    exact ⟨rfl, h1⟩

theorem list1 (l : List UInt8) (h : 1 ≤ l.length) : ∃ a r, l = a :: r := by
  cases l with
  | nil => simp at h
  | cons a r => exact ⟨a, r, rfl⟩
theorem list2 (l : List UInt8) (h : 2 ≤ l.length) : ∃ a b r, l = a :: b :: r := by
  obtain ⟨a, r, rfl⟩ := list1 l (by omega)
  obtain ⟨b, r, rfl⟩ := list1 r (by simp at h; omega)
  exact ⟨a, b, r, rfl⟩
theorem list4 (l : List UInt8) (h : 4 ≤ l.length) : ∃ a b c d r, l = a :: b :: c :: d :: r := by
  obtain ⟨a, b, r, rfl⟩ := list2 l (by omega)
  obtain ⟨c, d, r, rfl⟩ := list2 r (by simp at h; omega)
  exact ⟨a, b, c, d, r, rfl⟩
theorem list8 (l : List UInt8) (h : 8 ≤ l.length) : ∃ a b c d a' b' c' d' r, l = a :: b :: c :: d :: a' :: b' :: c' :: d' :: r := by
  obtain ⟨a, b, c, d, r, rfl⟩ := list4 l (by omega)
  obtain ⟨a', b', c', d', r, rfl⟩ := list4 r (by simp at h; omega)
  exact ⟨a, b, c, d, a', b', c', d', r, rfl⟩

theorem rnumber_ok {w : World} {g : Nat} {l : List UInt8} {f m : Bool} (h : Rr w g l f m) (s : Int) (ht : tkOk l s = true) :
    Calls Try.prog 30 #[.pointer (some ⟨g, 0, none⟩), .int .i64 s] w fun e w' => e = .returned (.int .u64 (numOf (l.take s.toNat) : Nat)) ∧ Left w g (l.drop s.toNat) f m w' := by
  have hq : (s = 1 ∨ s = 2 ∨ s = 4 ∨ s = 8) ∧ s ≤ l.length := by simpa [tkOk, maySz, or_assoc] using ht
  clear ht
  obtain ⟨hs, hl⟩ := hq
  rcases hs with rfl | rfl | rfl | rfl
  · obtain ⟨a, r, rfl⟩ := list1 l (by omega)
    go_enter Try.func30, Try.ntmps30
    go_wp2_with fail
    refine (maySize_yes _ rfl _).mono ?_
    rintro e w' ⟨rfl, rfl⟩
    go_wp2_with fail
    refine (has_yes h _ hl).mono ?_
    rintro e w' ⟨rfl, rfl⟩
    go_wp2_with fail
    refine (one_any h).mono ?_
    rintro e w' ⟨rfl, h1⟩
    go_wp2
    go_ret
    exact ⟨by simp [numOf], h1⟩
  · obtain ⟨a, b, r, rfl⟩ := list2 l (by omega)
    go_enter Try.func30, Try.ntmps30
    go_wp2_with fail
    refine (maySize_yes _ rfl _).mono ?_
    rintro e w' ⟨rfl, rfl⟩
    go_wp2_with fail
    refine (has_yes h _ hl).mono ?_
    rintro e w' ⟨rfl, rfl⟩
    go_wp2_with fail
    refine (two_any h).mono ?_
    rintro e w' ⟨rfl, h1⟩
    go_wp2
    go_ret
    exact ⟨rfl, h1⟩
  · obtain ⟨a, b, c, d, r, rfl⟩ := list4 l (by omega)
    go_enter Try.func30, Try.ntmps30
    go_wp2_with fail
    refine (maySize_yes _ rfl _).mono ?_
    rintro e w' ⟨rfl, rfl⟩
    go_wp2_with fail
    refine (has_yes h _ hl).mono ?_
    rintro e w' ⟨rfl, rfl⟩
    go_wp2_with fail
    refine (four_any h).mono ?_
    rintro e w' ⟨rfl, h1⟩
    go_wp2
    go_ret
    exact ⟨rfl, h1⟩
  · obtain ⟨a, b, c, d, a', b', c', d', r, rfl⟩ := list8 l (by omega)
    go_enter Try.func30, Try.ntmps30
    go_wp2_with fail
    refine (maySize_yes _ rfl _).mono ?_
    rintro e w' ⟨rfl, rfl⟩
    go_wp2_with fail
    refine (has_yes h _ hl).mono ?_
    rintro e w' ⟨rfl, rfl⟩
    go_wp2_with fail
    refine (eight_any h).mono ?_
    rintro e w' ⟨rfl, h1⟩
    go_wp2
    go_ret
    exact ⟨rfl, h1⟩

theorem rnumber_any {w : World} {g : Nat} {l : List UInt8} {f m : Bool} (h : Rr w g l f m) (s : Int) :
    Calls Try.prog 30 #[.pointer (some ⟨g, 0, none⟩), .int .i64 s] w fun e w' => e = .returned (.int .u64 (tkNum l s : Nat)) ∧ Left w g (tkRest l s) (f || !tkOk l s) m w' := by
  cases ht : tkOk l s with
  | true =>
    have e1 : tkNum l s = numOf (l.take s.toNat) := by simp [tkNum, ht]
    have e2 : tkRest l s = l.drop s.toNat := by simp [tkRest, ht]
    rw [e1, e2]
    simpa using rnumber_ok h s ht
  | false =>
    have e1 : tkNum l s = 0 := by simp [tkNum, ht]
    have e2 : tkRest l s = [] := by simp [tkRest, ht]
    rw [e1, e2]
    simpa using rnumber_fail h s ht

theorem tkNum_lt (l : List UInt8) (s : Int) : tkNum l s < 18446744073709551616 := by
  unfold tkNum
  split
  · rename_i ht
    have hq : (s = 1 ∨ s = 2 ∨ s = 4 ∨ s = 8) ∧ s ≤ l.length := by simpa [tkOk, maySz, or_assoc] using ht
    have h := numOf_lt (l.take s.toNat)
    have hl : (l.take s.toNat).length ≤ 8 := by rw [List.length_take]; omega
    have := Nat.pow_le_pow_right (show 0 < 256 by omega) hl
    have e : 256 ^ 8 = 18446744073709551616 := by decide
    omega
  · omega
end Go.Proofs.Ytmjkcjllpnpgpaa
