/- The laws' own kind and put. -/
import Derived.Test.YtmjkcjllpnpgpaaRput
namespace Go.Proofs.Ytmjkcjllpnpgpaa
open Go.RowKit

/-- A put's kind, from 1 to 7. -/
def kindOf (n : Int) : Int := Int.tmod n 7 % 7 + 1
theorem kindOf_in (n : Int) : 1 ≤ kindOf n ∧ kindOf n ≤ 7 := by
  unfold kindOf
  omega

theorem tmod7 (n : Int) : -7 < Int.tmod n 7 ∧ Int.tmod n 7 < 7 := by
  rcases Int.le_total 0 n with h | h
  · rw [Int.tmod_eq_emod_of_nonneg h]
    omega
  · obtain ⟨m, rfl⟩ : ∃ m, n = -m := ⟨-n, by omega⟩
    rw [Int.neg_tmod, Int.tmod_eq_emod_of_nonneg (by omega)]
    omega

theorem kind_any (n : Int) (w : World) : Calls Try.prog 12 #[.int .i64 n] w fun e w' => e = .returned (.int .i64 (kindOf n)) ∧ w = w' := by
  have hb := tmod7 n
  have e1 : wrap64 (Int.tmod n 7 + 7) = Int.tmod n 7 + 7 := by unfold wrap64; omega
  have e2 : Int.tmod (Int.tmod n 7 + 7) 7 = (Int.tmod n 7 + 7) % 7 := Int.tmod_eq_emod_of_nonneg (by omega)
  have e3 : wrap64 ((Int.tmod n 7 + 7) % 7 + 1) = (Int.tmod n 7 + 7) % 7 + 1 := by unfold wrap64; omega
  unfold kindOf
  clear hb
  go_enter Try.func12, Try.ntmps12
  go_wp2
  go_ret
  exact ⟨rfl, rfl⟩

/-- A writer, one put later. -/
def stepP (o : Option (List UInt8)) (k : Int) (n : Nat) (s : Int) (l : List UInt8) : Option (List UInt8) := o.bind fun p => (rput k n s l).map (p ++ ·)

theorem stepP_1 (o : Option (List UInt8)) (n : Nat) (s : Int) (l : List UInt8) : putNum o n s = stepP o 1 n s l := by
  cases o with
  | none => rfl
  | some p => cases h : numOk n s <;> simp [putNum, stepP, rput, h]
theorem stepP_2 (o : Option (List UInt8)) (n : Nat) (s : Int) (l : List UInt8) : putNum o n 8 = stepP o 2 n s l := by
  rw [putNum_8]
  cases o <;> simp [stepP, rput]
theorem stepP_3 (o : Option (List UInt8)) (n : Nat) (s : Int) (l : List UInt8) : putNum o (if (n : Int) % 2 == 1 then 1 else 0) 1 = stepP o 3 n s l := by
  have e : (if (n : Int) % 2 == 1 then 1 else 0) = n % 2 := by
    by_cases h : n % 2 = 1
    · have : ((n : Int) % 2 == 1) = true := by rw [beq_iff_eq]; omega
      rw [this, h]; rfl
    · have : ((n : Int) % 2 == 1) = false := by rw [beq_eq_false_iff_ne]; omega
      rw [this]
      have h0 : n % 2 = 0 := by omega
      rw [h0]; rfl
  rw [e]
  have h : numOk (n % 2) 1 = true := by simp [numOk]; omega
  cases o <;> simp [putNum, stepP, rput, h]
theorem stepP_4 (o : Option (List UInt8)) (n : Nat) (s : Int) (l : List UInt8) : o.map (· ++ l) = stepP o 4 n s l := by
  cases o <;> simp [stepP, rput]
theorem stepP_5 (o : Option (List UInt8)) (n : Nat) (s : Int) (l : List UInt8) : putBlob o l = stepP o 5 n s l := by
  cases o <;> simp [stepP, rput, putBlob]
theorem stepP_6 (o : Option (List UInt8)) (n : Nat) (s : Int) (l : List UInt8) : putBlob o l = stepP o 6 n s l := by
  cases o <;> simp [stepP, rput, putBlob]
theorem stepP_7 (o : Option (List UInt8)) (n : Nat) (s : Int) (h0 : -9223372036854775808 ≤ s) (h1 : s ≤ 9223372036854775807) (l : List UInt8) : putNum o (IntKind.u64.wrap s).toNat 2 = stepP o 7 n s l := by
  by_cases hs : 0 ≤ s
  · have e : (IntKind.u64.wrap s).toNat = s.toNat := by rw [wrapU]; omega
    rw [e]
    cases o with
    | none => rfl
    | some p => cases h : numOk s.toNat 2 <;> simp [putNum, stepP, rput, h, hs]
  · have h : numOk (IntKind.u64.wrap s).toNat 2 = false := by rw [wrapU]; simp [numOk]; omega
    cases o with
    | none => rfl
    | some p => simp [putNum, stepP, rput, h, hs]

theorem roomS.less {o : Option (List UInt8)} {n m : Nat} (h : roomS o n) (hm : m ≤ n) : roomS o m := by unfold roomS at h ⊢; omega

theorem Puts.alloc {w : World} {B g : Nat} {v : Value} {o : Option (List UInt8)} {x : Obj} {e : Ending} {w' : World} (h : Puts (w.alloc x) B g v o e w') : Puts w B g v o e w' := by
  obtain ⟨he, v', h1, h2, h3⟩ := h
  refine ⟨he, v', h1, ((Fr.refl _ w).alloc x).trans h2 (fun _ _ q => q), fun k hk => (h3 k hk).imp id (fun q => ?_)⟩
  simp at q
  omega

set_option maxHeartbeats 4000000 in
theorem lput_any {w : World} {B g : Nat} {v : Value} {o : Option (List UInt8)} (h : WrS w B g v o) {A : Option Addr} {m c : Nat} {l : List UInt8} (hr : Rd w A m l) (hm : m ≤ 3000)
    (hF : 0 < m → ∀ ad, A = some ad → ¬ WrF g v ad.block) (hb : roomS o 3008) (kd : Int) (n : Nat) (hn : n ≤ 18446744073709551615) (s : Int) (h0 : -9223372036854775808 ≤ s) (h1 : s ≤ 9223372036854775807) :
    Calls Try.prog 13 #[.pointer (some ⟨g, 0, none⟩), .agg #[.int .i64 kd, .int .u64 n, .int .i64 s, .slice A m c]] w (Puts w B g v (stepP o (kindOf kd) n s l)) := by
  have HK := Lib.hid (kind_any kd)
  have hk := kindOf_in kd
  generalize kindOf kd = k at *
  have hq : k = 1 ∨ k = 2 ∨ k = 3 ∨ k = 4 ∨ k = 5 ∨ k = 6 ∨ k = 7 := by omega
  clear hk
  have HS := Lib.hid (And.intro h0 h1)
  have HN := Lib.hid hn
  have HB := Lib.hid hb
  have HR := Lib.hid (And.intro hr (And.intro hm hF))
  obtain rfl := hr.len
  have HM := Lib.hid hm
  clear h0 h1 hn hb hr hm hF
  have HA := Lib.hid (h.alloc (.cells #[.int .i64 kd, .int .u64 n, .int .i64 s, .slice A l.length c] 34))
  rcases hq with rfl | rfl | rfl | rfl | rfl | rfl | rfl
  · rw [← stepP_1]
    go_enter Try.func13, Try.ntmps13
    go_wp2_with fail
    (with_reducible refine (HK.out _).mono ?_)
    rintro e w1 ⟨rfl, rfl⟩
    go_wp2_with fail
    refine (number_puts HA.out n s HN.out (HB.out.less (by omega))).mono ?_
    rintro e w1 hp
    obtain ⟨rfl, _⟩ := id hp
    have HP := Lib.hid hp.alloc
    clear hp
    go_wp2_with fail
    go_ret
    exact HP.out
  · have hint : Hid (putNum o (IntKind.u64.wrap (wrap64 (n : Int))).toNat 8 = stepP o 2 n s l) := Lib.hid (by
      have e : (IntKind.u64.wrap (wrap64 (n : Int))).toNat = n := by rw [wrapU]; unfold wrap64; have := HN.out; omega
      rw [e]
      exact stepP_2 o n s l)
    rw [← hint.out]
    go_enter Try.func13, Try.ntmps13
    go_wp2_with fail
    (with_reducible refine (HK.out _).mono ?_)
    rintro e w1 ⟨rfl, rfl⟩
    go_wp2_with fail
    refine (int_puts HA.out _ (HB.out.less (by omega))).mono ?_
    rintro e w1 hp
    obtain ⟨rfl, _⟩ := id hp
    have HP := Lib.hid hp.alloc
    clear hp
    go_wp2_with fail
    go_ret
    exact HP.out
  · have hfl : Hid (putNum o (if ((n : Int) % 2 == 1) = true then 1 else 0) 1 = stepP o 3 n s l) := Lib.hid (stepP_3 o n s l)
    have HC := Lib.hid (fun u (hu : WrS u B g v o) => flag_puts hu ((n : Int) % 2 == 1) (HB.out.less (by omega)))
    rw [hfl.out] at HC
    go_enter Try.func13, Try.ntmps13
    go_wp2_with fail
    (with_reducible refine (HK.out _).mono ?_)
    rintro e w1 ⟨rfl, rfl⟩
    go_wp2_with fail
    refine (HC.out _ HA.out).mono ?_
    rintro e w1 hp
    obtain ⟨rfl, _⟩ := id hp
    have HP := Lib.hid hp.alloc
    clear hp
    go_wp2_with fail
    go_ret
    exact HP.out
  · rw [← stepP_4 _ n s]
    go_enter Try.func13, Try.ntmps13
    go_wp2_with fail
    (with_reducible refine (HK.out _).mono ?_)
    rintro e w1 ⟨rfl, rfl⟩
    go_wp2_with fail
    refine (bytes_puts HA.out (HR.out.1.alloc _) (HB.out.less (by have := HM.out; omega))).mono ?_
    rintro e w1 hp
    obtain ⟨rfl, _⟩ := id hp
    have HP := Lib.hid hp.alloc
    clear hp
    go_wp2_with fail
    go_ret
    exact HP.out
  · rw [← stepP_5 _ n s]
    go_enter Try.func13, Try.ntmps13
    go_wp2_with fail
    (with_reducible refine (HK.out _).mono ?_)
    rintro e w1 ⟨rfl, rfl⟩
    go_wp2_with fail
    refine (blob_puts HA.out (HR.out.1.alloc _) (by have := HM.out; omega) HR.out.2.2 (HB.out.less (by have := HM.out; omega))).mono ?_
    rintro e w1 hp
    obtain ⟨rfl, _⟩ := id hp
    have HP := Lib.hid hp.alloc
    clear hp
    go_wp2_with fail
    go_ret
    exact HP.out
  · rw [← stepP_6 _ n s]
    have hcv := conv_string (P := Try.prog) 26 9 5 (c := c) (HR.out.1.alloc (.cells #[.int .i64 kd, .int .u64 n, .int .i64 s, .slice A l.length c] 34)) Try.underlying26 Try.underlying5 Try.underlying9
    go_enter Try.func13, Try.ntmps13
    go_wp2_with fail
    (with_reducible refine (HK.out _).mono ?_)
    rintro e w1 ⟨rfl, rfl⟩
    go_wp2_with fail
    refine (text_puts HA.out ⟨l.toArray⟩ (by have := HM.out; show l.length ≤ _; omega) (HB.out.less (by have := HM.out; show l.length + 8 ≤ _; omega))).mono ?_
    rintro e w1 hp
    obtain ⟨rfl, _⟩ := id hp
    have HP := Lib.hid hp.alloc
    clear hp
    go_wp2_with fail
    go_ret
    exact HP.out
  · rw [← stepP_7 _ n s HS.out.1 HS.out.2]
    go_enter Try.func13, Try.ntmps13
    go_wp2_with fail
    (with_reducible refine (HK.out _).mono ?_)
    rintro e w1 ⟨rfl, rfl⟩
    go_wp2_with fail
    refine (count_puts HA.out s (HB.out.less (by omega))).mono ?_
    rintro e w1 hp
    obtain ⟨rfl, _⟩ := id hp
    have HP := Lib.hid hp.alloc
    clear hp
    go_wp2_with fail
    go_ret
    exact HP.out
end Go.Proofs.Ytmjkcjllpnpgpaa
