/- strings.CutPrefix at a minus; wire.Signed, couponref01.Signed, couponref01.Whole. -/
import Derived.Test.YthmjfbefekicdaaDml
import Derived.Lib.Strings
import Derived.Lib.Split
import Derived.Lib.IndexBytes
namespace Go.Proofs.Ythmjfbefekicdaa
open Go.RowKit

theorem minus_size : (⟨#[45]⟩ : ByteArray).size = 1 := rfl

theorem pre_yes (s : ByteArray) (hs : s.size ≤ 1000) (r : List UInt8) (h : s.data.toList = 45 :: r) (w : World) :
    Calls Try.prog 72 #[.string s, .string ⟨#[45]⟩] w fun e w' => e = .returned (.bool true) ∧ w = w' := by
  have hsz := minus_size
  have h1 : decide (1 ≤ (s.size : Int)) = true := by
    have := congrArg List.length h
    rw [Array.length_toList] at this
    rw [decide_eq_true_eq]
    have h2 : s.size = r.length + 1 := this
    omega
  have h1n : 1 ≤ s.size := by rw [decide_eq_true_eq] at h1; omega
  have h2 : ((s.extract 0 1).toList == [45]) = true := by
    rw [ByteArray.toList_eq, Lib.extract_from_zero, h]
    rfl
  clear h
  go_enter Try.func72, Try.ntmps72
  go_wp2_with fail
  go_ret
  exact ⟨rfl, rfl⟩
theorem pre_no (s : ByteArray) (hs : s.size ≤ 1000) (h : s.data.toList.head? ≠ some 45) (w : World) :
    Calls Try.prog 72 #[.string s, .string ⟨#[45]⟩] w fun e w' => e = .returned (.bool false) ∧ w = w' := by
  have hsz := minus_size
  by_cases h0 : s.size = 0
  · have h1 : decide (1 ≤ (s.size : Int)) = false := by rw [decide_eq_false_iff_not]; omega
    clear h h0
    go_enter Try.func72, Try.ntmps72
    go_wp2_with fail
    go_ret
    exact ⟨rfl, rfl⟩
  · have h1 : decide (1 ≤ (s.size : Int)) = true := by rw [decide_eq_true_eq]; omega
    have h1n : 1 ≤ s.size := by omega
    have h2 : ((s.extract 0 1).toList == [45]) = false := by
      rw [ByteArray.toList_eq, Lib.extract_from_zero]
      cases hl : s.data.toList with
      | nil => rfl
      | cons c r =>
        rw [hl] at h
        rw [beq_eq_false_iff_ne]
        intro e
        simp at e h
        exact h e
    clear h h0
    go_enter Try.func72, Try.ntmps72
    go_wp2_with fail
    go_ret
    exact ⟨rfl, rfl⟩

/-- s begins with a minus (b), behind which t stands; or there is none, and t is s. -/
def Cut (s t : ByteArray) (b : Bool) : Prop := (b = true ∧ s.data.toList = 45 :: t.data.toList) ∨ (b = false ∧ t = s ∧ s.data.toList.head? ≠ some 45)
theorem Cut.ex (s : ByteArray) : ∃ t b, Cut s t b := by
  cases h : s.data.toList with
  | nil => exact ⟨s, false, .inr ⟨rfl, rfl, by simp [h]⟩⟩
  | cons c r =>
    by_cases hc : c = 45
    · exact ⟨⟨r.toArray⟩, true, .inl ⟨rfl, by rw [h, hc]⟩⟩
    · exact ⟨s, false, .inr ⟨rfl, rfl, by simp [h, hc]⟩⟩
theorem Cut.size {s t : ByteArray} {b : Bool} (h : Cut s t b) : t.size ≤ s.size := by
  rcases h with ⟨_, h⟩ | ⟨_, rfl, _⟩
  · have := congrArg List.length h
    rw [Array.length_toList, List.length_cons, Array.length_toList] at this
    have : s.size = t.size + 1 := this
    omega
  · exact Nat.le_refl _

theorem cut_lite (s t : ByteArray) (b : Bool) (hs : s.size ≤ 1000) (h : Cut s t b) (w : World) :
    Calls Try.prog 70 #[.string s, .string ⟨#[45]⟩] w fun e w' => e = .returned (.tuple #[.string t, .bool b]) ∧ w = w' := by
  have hsz := minus_size
  rcases h with ⟨rfl, h⟩ | ⟨rfl, rfl, h⟩
  · have ht : s.extract 1 s.size = t := Go.WideShapes.bytes_inj (by rw [Lib.extract_to_end, h]; rfl)
    have h1 : 1 ≤ s.size := by
      have := congrArg List.length h
      rw [Array.length_toList] at this
      have h2 : s.size = t.data.toList.length + 1 := this
      omega
    have HP := Lib.hid (pre_yes s hs _ h w)
    clear h
    go_enter Try.func70, Try.ntmps70
    go_wp2_with fail
    refine HP.out.mono ?_
    rintro e w' ⟨rfl, rfl⟩
    go_wp2_with fail
    go_ret2
    exact ⟨rfl, rfl⟩
  · have HP := Lib.hid (pre_no t hs h w)
    clear h
    go_enter Try.func70, Try.ntmps70
    go_wp2_with fail
    refine HP.out.mono ?_
    rintro e w' ⟨rfl, rfl⟩
    go_wp2_with fail
    go_ret2
    exact ⟨rfl, rfl⟩

theorem cut_any (s t : ByteArray) (b : Bool) (hs : s.size ≤ 1000) (h : Cut s t b) (w : World) :
    Calls Try.prog 65 #[.string s, .string ⟨#[45]⟩] w fun e w' => e = .returned (.tuple #[.string t, .bool b]) ∧ w = w' := by
  have HP := Lib.hid (cut_lite s t b hs h w)
  clear h
  go_enter Try.func65, Try.ntmps65
  go_wp2_with fail
  refine HP.out.mono ?_
  rintro e w' ⟨rfl, rfl⟩
  go_wp2_with fail
  go_ret2
  exact ⟨rfl, rfl⟩

/-- What a whole number's text answers: which error, the number (b: a minus stands ahead of the digits l). -/
def sgE (b : Bool) (l : List UInt8) (most : Int) : Int := if !mayB l || (b && l == [48]) then 4 else if most < 0 ∨ most < (dval l : Nat) then 5 else 0
def sgN (b : Bool) (l : List UInt8) (most : Int) : Int := if sgE b l most = 0 then (if b then -(dval l : Nat) else (dval l : Nat)) else 0

theorem sg_neg (b : Bool) (l : List UInt8) (m : Int) (hm : m < 0) (h48 : ¬ (b = true ∧ l = [48])) :
    sgN b l m = 0 ∧ (decE l 0 ≠ 0 → sgE b l m = decE l 0) ∧ (decE l 0 = 0 → sgE b l m = 5) := by
  have hb : (b && l == [48]) = false := by
    rw [Bool.eq_false_iff]
    intro h
    rw [Bool.and_eq_true, beq_iff_eq] at h
    exact h48 h
  cases hmay : mayB l with
  | false =>
    have e1 : sgE b l m = 4 := by simp [sgE, hmay]
    have e2 : decE l 0 = 4 := by simp [decE, hmay]
    exact ⟨by simp [sgN, e1], fun _ => by rw [e1, e2], fun h => by rw [e2] at h; cases h⟩
  | true =>
    have e1 : sgE b l m = 5 := by simp [sgE, hmay, hb, hm]
    refine ⟨by simp [sgN, e1], fun h => ?_, fun _ => e1⟩
    rw [e1]
    unfold decE at h ⊢
    rw [hmay] at h ⊢
    by_cases hq : 0 < dval l
    · simp [hq]
    · simp [hq] at h
theorem sg_pos (b : Bool) (l : List UInt8) (k : Nat) (h48 : ¬ (b = true ∧ l = [48])) :
    sgE b l k = decE l k ∧ (decE l k ≠ 0 → sgN b l k = 0) ∧ (decE l k = 0 → sgN b l k = (if b then -((decN l k : Nat) : Int) else (decN l k : Nat)) ∧ decN l k ≤ k) := by
  have hb : (b && l == [48]) = false := by
    rw [Bool.eq_false_iff]
    intro h
    rw [Bool.and_eq_true, beq_iff_eq] at h
    exact h48 h
  cases hmay : mayB l with
  | false =>
    have e1 : sgE b l k = 4 := by simp [sgE, hmay]
    have e2 : decE l k = 4 := by simp [decE, hmay]
    exact ⟨by rw [e1, e2], fun _ => by simp [sgN, e1], fun h => by rw [e2] at h; cases h⟩
  | true =>
    have e0 : ¬ ((k : Int) < 0) := by omega
    by_cases hq : k < dval l
    · have e1 : sgE b l k = 5 := by
        have : ((k : Int) < (dval l : Nat)) := by omega
        simp [sgE, hmay, hb, this]
      have e2 : decE l k = 5 := by simp [decE, hmay, hq]
      exact ⟨by rw [e1, e2], fun _ => by simp [sgN, e1], fun h => by rw [e2] at h; cases h⟩
    · have e1 : sgE b l k = 0 := by
        have : ¬ ((k : Int) < (dval l : Nat)) := by omega
        simp [sgE, hmay, hb, this, e0]
      have e2 : decE l k = 0 := by simp [decE, hmay, hq]
      have e3 : decN l k = dval l := by simp [decN, hmay, hq]
      exact ⟨by rw [e1, e2], fun h => absurd e2 h, fun _ => ⟨by rw [e3]; simp [sgN, e1], by rw [e3]; omega⟩⟩

set_option maxHeartbeats 2000000 in
theorem sgn_any (s t : ByteArray) (b : Bool) (hs : s.size ≤ 1000) (hc : Cut s t b) (m : Int) (h0 : -9223372036854775808 ≤ m) (h1 : m ≤ 9223372036854775807) (w : World) :
    Calls Try.prog 41 #[.string s, .int .i64 m] w fun e w' => e = .returned (.tuple #[.int .i64 (sgN b t.data.toList m), .int .i64 (sgE b t.data.toList m)]) ∧ Fr (fun _ => False) w w' := by
  have ht := hc.size
  have HC := Lib.hid (cut_any s t b hs hc)
  obtain ⟨x, hx⟩ : ∃ x, x = sgN b t.data.toList m := ⟨_, rfl⟩
  obtain ⟨y, hy⟩ : ∃ y, y = sgE b t.data.toList m := ⟨_, rfl⟩
  rw [← hx, ← hy]
  by_cases h48 : b = true ∧ t.data.toList = [48]
  · obtain ⟨rfl, hl⟩ := h48
    obtain rfl : y = 4 := by rw [hy, hl]; rfl
    obtain rfl : x = 0 := by rw [hx, hl]; rfl
    have h2 : (t.toList == [48]) = true := by rw [ByteArray.toList_eq, hl]; rfl
    clear hx hy hl hc h0 h1
    go_enter Try.func41, Try.ntmps41
    go_wp2_with fail
    refine (HC.out _).mono ?_
    rintro e w' ⟨rfl, rfl⟩
    go_wp2_with fail
    go_ret2
    exact ⟨rfl, Fr.refl _ _⟩
  · have hbt : (b && t.toList == [48]) = false := by
      rw [Bool.eq_false_iff]
      intro h
      rw [Bool.and_eq_true, beq_iff_eq, ByteArray.toList_eq] at h
      exact h48 h
    by_cases hm : m < 0
    · obtain ⟨g1, g2, g3⟩ := sg_neg b t.data.toList m hm h48
      rw [← hx] at g1
      rw [← hy] at g2 g3
      subst g1
      have HD : ∀ w, Hid (Calls Try.prog 38 #[.string t, .int .u64 0] w fun e w' => e = .returned (.tuple #[.int .u64 (decN t.data.toList 0 : Nat), .int .i64 (decE t.data.toList 0)]) ∧ Fr (fun _ => False) w w') := fun w => Lib.hid (dec_any t (by omega) 0 (by omega) w)
      generalize decE t.data.toList 0 = E at *
      generalize decN t.data.toList 0 = N at *
      clear hx hy hc h48 h0 h1
      by_cases hE : E = 0
      · obtain rfl := g3 hE
        subst hE
        clear g2 g3
        cases b with
        | false =>
          clear hbt
          go_enter Try.func41, Try.ntmps41
          go_wp2_with fail
          refine (HC.out _).mono ?_
          rintro e w' ⟨rfl, rfl⟩
          go_wp2_with fail
          refine (HD _).out.mono ?_
          rintro e w' ⟨rfl, hf⟩
          go_wp2_with fail
          go_ret2
          exact ⟨rfl, hf⟩
        | true =>
          rw [Bool.true_and] at hbt
          go_enter Try.func41, Try.ntmps41
          go_wp2_with fail
          refine (HC.out _).mono ?_
          rintro e w' ⟨rfl, rfl⟩
          go_wp2_with fail
          refine (HD _).out.mono ?_
          rintro e w' ⟨rfl, hf⟩
          go_wp2_with fail
          go_ret2
          exact ⟨rfl, hf⟩
      · obtain rfl := g2 hE
        have hE2 : (y != 0) = true := by rw [bne_iff_ne]; exact hE
        clear g2 g3 hE
        cases b with
        | false =>
          clear hbt
          go_enter Try.func41, Try.ntmps41
          go_wp2_with fail
          refine (HC.out _).mono ?_
          rintro e w' ⟨rfl, rfl⟩
          go_wp2_with fail
          refine (HD _).out.mono ?_
          rintro e w' ⟨rfl, hf⟩
          go_wp2_with fail
          go_ret2
          exact ⟨rfl, hf⟩
        | true =>
          rw [Bool.true_and] at hbt
          go_enter Try.func41, Try.ntmps41
          go_wp2_with fail
          refine (HC.out _).mono ?_
          rintro e w' ⟨rfl, rfl⟩
          go_wp2_with fail
          refine (HD _).out.mono ?_
          rintro e w' ⟨rfl, hf⟩
          go_wp2_with fail
          go_ret2
          exact ⟨rfl, hf⟩
    · obtain ⟨k, rfl⟩ := Int.eq_ofNat_of_zero_le (show 0 ≤ m by omega)
      obtain ⟨g1, g2, g3⟩ := sg_pos b t.data.toList k h48
      rw [← hy] at g1
      rw [← hx] at g2 g3
      have HD : ∀ w, Hid (Calls Try.prog 38 #[.string t, .int .u64 k] w fun e w' => e = .returned (.tuple #[.int .u64 (decN t.data.toList k : Nat), .int .i64 (decE t.data.toList k)]) ∧ Fr (fun _ => False) w w') := fun w => Lib.hid (dec_any t (by omega) k (by omega) w)
      generalize decE t.data.toList k = E at *
      generalize decN t.data.toList k = N at *
      have hw : IntKind.u64.wrap (k : Int) = (k : Int) := by rw [wrapU]; omega
      have H1 := Lib.hid h1
      subst g1
      clear hx hy hc h48 h0 h1 hm
      by_cases hE : y = 0
      · obtain ⟨hxN, hNk⟩ := g3 hE
        subst hE
        have hw2 : wrap64 (N : Int) = (N : Int) := by have := H1.out; unfold wrap64; omega
        have hw3 : wrap64 (-(N : Int)) = -(N : Int) := by have := H1.out; unfold wrap64; omega
        clear g2 g3 hNk
        cases b with
        | false =>
          subst hxN
          clear hbt
          go_enter Try.func41, Try.ntmps41
          go_wp2_with fail
          refine (HC.out _).mono ?_
          rintro e w' ⟨rfl, rfl⟩
          go_wp2_with fail
          refine (HD _).out.mono ?_
          rintro e w' ⟨rfl, hf⟩
          go_wp2_with fail
          go_ret2
          exact ⟨rfl, hf⟩
        | true =>
          subst hxN
          rw [Bool.true_and] at hbt
          go_enter Try.func41, Try.ntmps41
          go_wp2_with fail
          refine (HC.out _).mono ?_
          rintro e w' ⟨rfl, rfl⟩
          go_wp2_with fail
          refine (HD _).out.mono ?_
          rintro e w' ⟨rfl, hf⟩
          go_wp2_with fail
          go_ret2
          exact ⟨rfl, hf⟩
      · obtain rfl := g2 hE
        have hE2 : (y != 0) = true := by rw [bne_iff_ne]; exact hE
        clear g2 g3 hE
        cases b with
        | false =>
          clear hbt
          go_enter Try.func41, Try.ntmps41
          go_wp2_with fail
          refine (HC.out _).mono ?_
          rintro e w' ⟨rfl, rfl⟩
          go_wp2_with fail
          refine (HD _).out.mono ?_
          rintro e w' ⟨rfl, hf⟩
          go_wp2_with fail
          go_ret2
          exact ⟨rfl, hf⟩
        | true =>
          rw [Bool.true_and] at hbt
          go_enter Try.func41, Try.ntmps41
          go_wp2_with fail
          refine (HC.out _).mono ?_
          rintro e w' ⟨rfl, rfl⟩
          go_wp2_with fail
          refine (HD _).out.mono ?_
          rintro e w' ⟨rfl, hf⟩
          go_wp2_with fail
          go_ret2
          exact ⟨rfl, hf⟩
end Go.Proofs.Ythmjfbefekicdaa
