/- The writer's other methods: Int, Flag, Blob, Text, Count, Len, End; and slices.Clone at bytes. -/
import Derived.Test.YtmjkcjllpnpgpaaPut
namespace Go.Proofs.Ytmjkcjllpnpgpaa
open Go.RowKit

theorem wrapU (n : Int) : IntKind.u64.wrap n = n % 18446744073709551616 := by simp [IntKind.wrap, IntKind.signed, IntKind.bits]
theorem wrapU_le (n : Int) : IntKind.u64.wrap n ≤ 18446744073709551615 := by rw [wrapU]; omega

theorem int_puts {w : World} {B g : Nat} {v : Value} {o : Option (List UInt8)} (h : WrS w B g v o) (n : Int) (hb : roomS o 8) :
    Calls Try.prog 24 #[.pointer (some ⟨g, 0, none⟩), .int .i64 n] w (Puts w B g v (putNum o (IntKind.u64.wrap n).toNat 8)) := by
  go_enter Try.func24, Try.ntmps24
  go_wp2_with fail
  refine (number_puts_int h _ _ (wrap_u64_nonneg n) (wrapU_le n) hb).mono ?_
  rintro e w' ⟨rfl, hp⟩
  go_wp2_with fail
  go_ret
  exact ⟨rfl, hp⟩

theorem flag_puts {w : World} {B g : Nat} {v : Value} {o : Option (List UInt8)} (h : WrS w B g v o) (b : Bool) (hb : roomS o 8) :
    Calls Try.prog 26 #[.pointer (some ⟨g, 0, none⟩), .bool b] w (Puts w B g v (putNum o (if b then 1 else 0) 1)) := by
  cases b
  all_goals
    go_enter Try.func26, Try.ntmps26
    go_wp2_with fail
    refine (number_puts_int h _ _ (by omega) (by omega) hb).mono ?_
    rintro e w' ⟨rfl, hp⟩
    go_wp2_with fail
    go_ret
    exact ⟨rfl, hp⟩

theorem count_puts {w : World} {B g : Nat} {v : Value} {o : Option (List UInt8)} (h : WrS w B g v o) (n : Int) (hb : roomS o 8) :
    Calls Try.prog 23 #[.pointer (some ⟨g, 0, none⟩), .int .i64 n] w (Puts w B g v (putNum o (IntKind.u64.wrap n).toNat 2)) := by
  go_enter Try.func23, Try.ntmps23
  go_wp2_with fail
  refine (number_puts_int h _ _ (wrap_u64_nonneg n) (wrapU_le n) hb).mono ?_
  rintro e w' ⟨rfl, hp⟩
  go_wp2_with fail
  go_ret
  exact ⟨rfl, hp⟩

theorem blob_long {w : World} {B g : Nat} {v : Value} {o : Option (List UInt8)} (h : WrS w B g v o) (A : Option Addr) (n c : Nat) (hn : 16777216 < n) (hc : n ≤ maxLen) :
    Calls Try.prog 42 #[.pointer (some ⟨g, 0, none⟩), .slice A n c] w (Puts w B g v none) := by
  unfold maxLen at hc
  go_enter Try.func42, Try.ntmps42
  go_wp2_with fail
  refine (fail_puts h).mono ?_
  rintro e w' ⟨rfl, hp⟩
  go_wp2_with fail
  go_ret
  exact ⟨rfl, hp⟩

theorem Rd.keep0 {F : Nat → Prop} {w w' : World} {A : Option Addr} {n : Nat} {l : List UInt8} (h : Rd w A n l) (f : Fr F w w') (hF : 0 < n → ∀ ad, A = some ad → ¬ F ad.block) : Rd w' A n l := by
  rcases Nat.eq_zero_or_pos n with h0 | h0
  · exact ⟨h.1, fun q => absurd q (by omega)⟩
  · exact h.keep f (hF h0)

/-- A blob: its length, its bytes. -/
def putBlob (o : Option (List UInt8)) (l : List UInt8) : Option (List UInt8) := o.map (· ++ (be l.length 4 ++ l))

theorem putNum_4 (o : Option (List UInt8)) (n : Nat) (hn : n ≤ 16777216) : putNum o n 4 = o.map (· ++ be n 4) := by
  have h : numOk n 4 = true := by simp [numOk]; omega
  cases o <;> simp [putNum, h]
theorem putNum_8 (o : Option (List UInt8)) (n : Nat) : putNum o n 8 = o.map (· ++ be n 8) := by
  have h : numOk n 8 = true := by simp [numOk]
  cases o <;> simp [putNum, h]
theorem putBlob_eq (o : Option (List UInt8)) (l : List UInt8) : (o.map (· ++ be l.length 4)).map (· ++ l) = putBlob o l := by cases o <;> simp [putBlob]

theorem blob_puts {w : World} {B g : Nat} {v : Value} {o : Option (List UInt8)} (h : WrS w B g v o) {A : Option Addr} {n c : Nat} {l : List UInt8} (hr : Rd w A n l) (hn : n ≤ 16777216) (hF : 0 < n → ∀ ad, A = some ad → ¬ WrF g v ad.block) (hb : roomS o (n + 8)) :
    Calls Try.prog 42 #[.pointer (some ⟨g, 0, none⟩), .slice A n c] w (Puts w B g v (putBlob o l)) := by
  go_enter Try.func42, Try.ntmps42
  go_wp2_with fail
  refine (number_puts_int h _ _ (by omega) (by omega) (by unfold roomS at hb ⊢; omega)).mono ?_
  rintro e w1 ⟨rfl, v1, hw1, hf1, hv1⟩
  have hr1 := hr.keep0 hf1 hF
  have hl := hr.len
  have hp : Hid (putNum o (n : Int).toNat 4 = o.map (· ++ be l.length 4)) := Lib.hid (by rw [Int.toNat_natCast, putNum_4 o n hn, hl])
  have hq : Hid (WrS w1 B g v1 (o.map (· ++ be l.length 4))) := Lib.hid (hp.out ▸ hw1)
  clear hp hw1
  have hroom : roomS (o.map (· ++ be l.length 4)) n := by
    cases o <;> simp [roomS, be_len] at hb ⊢ <;> omega
  go_wp2_with fail
  refine (bytes_puts hq.out hr1 hroom).mono ?_
  rintro e w2 ⟨rfl, v2, hw2, hf2, hv2⟩
  go_wp2_with fail
  go_ret
  refine ⟨rfl, v2, putBlob_eq o l ▸ hw2, hf1.trans hf2 ?_, ?_⟩
  · rintro i hi (rfl | hk)
    · exact .inl rfl
    · rcases hv1 i hk with q | q
      · exact .inr q
      · omega
  · intro k hk
    have := hf1.size
    rcases hv2 k hk with q | q
    · exact hv1 k q
    · exact .inr (by omega)
end Go.Proofs.Ytmjkcjllpnpgpaa
