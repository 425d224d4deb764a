/- Kpa: laid together out of Ncb Nlo Sqm Frl Fsm. -/
import Derived.Test.YtmopkfjnjbimnaaKcp
namespace Go.Proofs.Ytmopkfjnjbimnaa
open Go.RowKit

def maySe (s : Int) : Bool := decide (0 ≤ s ∧ s ≤ 999999999)
set_option maxRecDepth 100000 in
theorem ndigit_any (n : Nat) (hn : n < 18446744073709551616) (w : World) : Calls Try.prog 77 #[.int .u64 n] w fun e w' => e = .returned (.int .u64 (n % 7 : Nat)) ∧ w = w' := by
  have hw : IntKind.u64.wrap ((n : Int) % 7) = ((n % 7 : Nat) : Int) := by rw [wrapU]; omega
  go_enter Try.func77, Try.ntmps77
  go_wp2_with fail
  go_ret
  exact ⟨by congr 2 <;> omega, rfl⟩
set_option maxRecDepth 100000 in
theorem ncheck_any (n : Nat) (hn : n < 18446744073709551616) (w : World) : Calls Try.prog 38 #[.int .u64 n] w fun e w' => e = .returned (.int .i64 (chkE n : Nat)) ∧ w = w' := by
  obtain ⟨v, hv⟩ : ∃ v, v = chkE n := ⟨_, rfl⟩
  rw [← hv]
  unfold chkE at hv
  by_cases h1 : n < 1000000000000
  · rw [if_pos (.inl h1)] at hv
    subst hv
    have h1' : (n : Int) < 1000000000000 := by omega
    clear h1
    go_enter Try.func38, Try.ntmps38
    go_wp2_with fail
    go_ret
    exact ⟨rfl, rfl⟩
  · by_cases h2 : 9999999999999 < n
    · rw [if_pos (.inr h2)] at hv
      subst hv
      have h1' : ¬ (n : Int) < 1000000000000 := by omega
      have h2' : (9999999999999 : Int) < (n : Int) := by omega
      clear h1 h2
      go_enter Try.func38, Try.ntmps38
      go_wp2_with fail
      go_ret
      exact ⟨rfl, rfl⟩
    · rw [if_neg (by omega)] at hv
      have h1' : ¬ (n : Int) < 1000000000000 := by omega
      have h2' : ¬ (9999999999999 : Int) < (n : Int) := by omega
      have HD := Lib.hid (ndigit_any (n / 10) (by omega) w)
      have e1 : IntKind.u64.wrap ((n : Int) / 10) = ((n / 10 : Nat) : Int) := by rw [wrapU]; omega
      have e2 : IntKind.u64.wrap ((n : Int) % 10) = ((n % 10 : Nat) : Int) := by rw [wrapU]; omega
      have e3 : (n : Int) / 10 = ((n / 10 : Nat) : Int) := by omega
      have e4 : (n : Int) % 10 = ((n % 10 : Nat) : Int) := by omega
      obtain ⟨q, hq⟩ : ∃ q, q = n / 10 := ⟨_, rfl⟩
      obtain ⟨r, hr⟩ : ∃ r, r = n % 10 := ⟨_, rfl⟩
      obtain ⟨u, hu⟩ : ∃ u, u = n / 10 % 7 := ⟨_, rfl⟩
      rw [← hu, ← hr] at hv
      rw [← hu] at HD
      rw [← hq] at HD e1 e3
      rw [← hr] at e2 e4
      by_cases hd : u = r
      · rw [if_neg (fun q => q hd)] at hv
        subst hv
        have hb : ((r : Int) != (u : Int)) = false := by rw [bne_eq_false_iff_eq]; omega
        clear h1 h2 hq hr hu hd
        go_enter Try.func38, Try.ntmps38
        go_wp2_with fail
        refine HD.out.mono ?_
        rintro e w1 ⟨rfl, rfl⟩
        go_wp2_with fail
        go_ret
        exact ⟨rfl, rfl⟩
      · rw [if_pos hd] at hv
        subst hv
        have hb : ((r : Int) != (u : Int)) = true := by rw [bne_iff_ne]; omega
        clear h1 h2 hq hr hu hd
        go_enter Try.func38, Try.ntmps38
        go_wp2_with fail
        refine HD.out.mono ?_
        rintro e w1 ⟨rfl, rfl⟩
        go_wp2_with fail
        go_ret
        exact ⟨rfl, rfl⟩
set_option maxRecDepth 100000 in
theorem ncar_any (n : Nat) (hn : n < 18446744073709551616) (w : World) : Calls Try.prog 104 #[.int .u64 n] w fun e w' => e = .returned (.int .i64 (carN n : Nat)) ∧ w = w' := by
  have HC := Lib.hid (ncheck_any n hn w)
  obtain ⟨v, hv⟩ : ∃ v, v = carN n := ⟨_, rfl⟩
  rw [← hv]
  obtain ⟨u, hu⟩ : ∃ u, u = chkE n := ⟨_, rfl⟩
  rw [← hu] at HC
  unfold carN at hv
  rw [← hu] at hv
  by_cases h : u = 0
  · rw [if_pos h] at hv
    have hle : n ≤ 9999999999999 := by
      rw [h] at hu
      unfold chkE at hu
      split at hu
      · omega
      · omega
    subst h
    have e1 : (n : Int) / 10 = ((n / 10 : Nat) : Int) := by omega
    have e2 : IntKind.u64.wrap ((n : Int) / 10) = ((n / 10 : Nat) : Int) := by rw [wrapU]; omega
    have e3 : ((n / 10 : Nat) : Int) / 1000000000 = (v : Int) := by omega
    have e4 : IntKind.u64.wrap (((n / 10 : Nat) : Int) / 1000000000) = (v : Int) := by rw [wrapU]; omega
    obtain ⟨q, hq⟩ : ∃ q, q = n / 10 := ⟨_, rfl⟩
    rw [← hq] at e1 e2 e3 e4
    have hv2 : (v : Int) < 9999999999999 := by omega
    have hq2 : (q : Int) < 9999999999999 := by omega
    clear hv hq hu
    go_enter Try.func104, Try.ntmps104
    go_wp2_with fail
    refine HC.out.mono ?_
    rintro e w1 ⟨rfl, rfl⟩
    go_wp2_with fail
    go_ret
    exact ⟨by first | rfl | (congr 2 <;> omega), rfl⟩
  · rw [if_neg h] at hv
    subst hv
    have hb : ((u : Int) != 0) = true := by rw [bne_iff_ne]; omega
    clear hu h
    go_enter Try.func104, Try.ntmps104
    go_wp2_with fail
    refine HC.out.mono ?_
    rintro e w1 ⟨rfl, rfl⟩
    go_wp2_with fail
    go_ret
    exact ⟨rfl, rfl⟩
end Go.Proofs.Ytmopkfjnjbimnaa

namespace Go.Proofs.Ytmopkfjnjbimnaa
open Go.RowKit

def isLocR (r : Nat) : Bool := decide (65 ≤ r ∧ r ≤ 90 ∨ 50 ≤ r ∧ r ≤ 57)
set_option maxRecDepth 100000 in
theorem nforeign_any (r : Nat) (hr : r < 2147483648) (w : World) : Calls Try.prog 79 #[.int .i32 (r : Int)] w fun e w' => e = .returned (.bool (!isLocR r)) ∧ w = w' := by
  obtain ⟨b, hb⟩ : ∃ b, b = !isLocR r := ⟨_, rfl⟩
  rw [← hb]
  have key : b = true ↔ ¬ (65 ≤ r ∧ r ≤ 90 ∨ 50 ≤ r ∧ r ≤ 57) := by rw [hb]; unfold isLocR; simp; omega
  have hc : r < 50 ∨ (50 ≤ r ∧ r ≤ 57) ∨ (57 < r ∧ r < 65) ∨ (65 ≤ r ∧ r ≤ 90) ∨ 90 < r := by omega
  clear hb
  rcases hc with h | h | h | h | h
  · have h1 : (r : Int) < 65 := by omega
    have h2 : (r : Int) < 50 := by omega
    obtain rfl : b = true := key.2 (by omega)
    clear h key
    go_enter Try.func79, Try.ntmps79
    go_wp2_with fail
    go_ret
    exact ⟨rfl, rfl⟩
  · have h1 : (r : Int) < 65 := by omega
    have h2 : ¬ (r : Int) < 50 := by omega
    have h3 : ¬ (57 : Int) < (r : Int) := by omega
    obtain rfl : b = false := by cases b with | false => rfl | true => exact absurd (key.1 rfl) (by omega)
    clear h key
    go_enter Try.func79, Try.ntmps79
    go_wp2_with fail
    go_ret
    exact ⟨by first | rfl | simp [h3], rfl⟩
  · have h1 : (r : Int) < 65 := by omega
    have h2 : ¬ (r : Int) < 50 := by omega
    have h3 : (57 : Int) < (r : Int) := by omega
    obtain rfl : b = true := key.2 (by omega)
    clear h key
    go_enter Try.func79, Try.ntmps79
    go_wp2_with fail
    go_ret
    exact ⟨by first | rfl | simp [h3], rfl⟩
  · have h1 : ¬ (r : Int) < 65 := by omega
    have h2 : ¬ (90 : Int) < (r : Int) := by omega
    obtain rfl : b = false := by cases b with | false => rfl | true => exact absurd (key.1 rfl) (by omega)
    clear h key
    go_enter Try.func79, Try.ntmps79
    go_wp2_with fail
    go_ret
    exact ⟨by first | rfl | simp [h2], rfl⟩
  · have h1 : ¬ (r : Int) < 65 := by omega
    have h2 : (90 : Int) < (r : Int) := by omega
    have h3 : ¬ (r : Int) < 50 := by omega
    have h4 : (57 : Int) < (r : Int) := by omega
    obtain rfl : b = true := key.2 (by omega)
    clear h key
    go_enter Try.func79, Try.ntmps79
    go_wp2_with fail
    go_ret
    exact ⟨by first | rfl | simp [h4], rfl⟩

/-- The place of the first byte that is in no locator, or -1: only its sign is told. -/
def IdxS (s : ByteArray) (w : World) (e : Ending) (w' : World) : Prop := ∃ n : Int, e = .returned (.int .i64 n) ∧ decide (0 ≤ n) = !(s.data.toList.all isLoc) ∧ -1 ≤ n ∧ n ≤ 1000 ∧ Fr (fun _ => False) w w'
set_option maxRecDepth 100000 in
theorem isLoc_R (c : UInt8) : isLoc c = isLocR c.toNat := rfl
set_option maxRecDepth 100000 in
set_option maxHeartbeats 1000000 in
theorem index_any (s : ByteArray) (hs : s.size ≤ 1000) (w : World) : Calls Try.prog 116 #[.string s, .func (.func 79) #[] #[], .bool true] w (IdxS s w) := by
  go_enter Try.func116, Try.ntmps116
  go_wp2_with fail
  go_loopw [] (fun wr => ∃ (pos : Nat), wr = w.iter s pos ∧ pos ≤ s.size ∧ Hid ((s.data.toList.take pos).all isLoc = true)) (fun wr => s.size - wr.iterPos w.heap.size)
  case atStart => exact ⟨0, rfl, by omega, Lib.hid rfl⟩
  case round =>
    obtain ⟨pos, rfl, hpos, HA⟩ := hrel
    by_cases hlt : pos < s.size
    · have hts := take_snoc s pos hlt
      have hbad : isLoc s[pos] = false → s.data.toList.all isLoc = false := by
        intro hd
        rw [List.all_eq_false]
        exact ⟨s[pos], List.mem_of_getElem? (get_lst s pos hlt), by rw [hd]; simp⟩
      have hp1 : (pos : Int) ≤ 1000 := by omega
      by_cases h128 : s[pos].toNat < 128
      · have hnx : ∀ ty, (Instr.next (.pointer (some ⟨w.heap.size, 0, none⟩)) true ty).run Try.prog (w.iter s pos) = _ := fun ty => run_next_ascii w s pos ty hlt h128
        have HC := Lib.hid (nforeign_any s[pos].toNat (by omega) (w.iter s (pos + 1)))
        rw [← isLoc_R] at HC
        have hall : (s.data.toList.take (pos + 1)).all isLoc = isLoc s[pos] := by rw [hts, List.all_append, HA.out]; simp
        have HL := Lib.hid (And.intro hall hbad)
        obtain ⟨b, hb⟩ : ∃ b, b = isLoc s[pos] := ⟨_, rfl⟩
        rw [← hb] at HC HL
        obtain ⟨d, hd⟩ : ∃ d, d = s[pos].toNat := ⟨_, rfl⟩
        rw [← hd] at hnx HC
        have hp2 : pos + 1 ≤ s.size := hlt
        have hF : Fr (fun _ => False) w (w.iter s (pos + 1)) := (Fr.refl _ w).alloc _
        have HF := Lib.hid hF
        clear hts hbad h128 hall hb hd HA hF
        cases b with
        | true =>
          go_wp2_with fail
          refine HC.out.mono ?_
          rintro e w1 ⟨rfl, rfl⟩
          go_wp2_with fail
          go_roundw
          case rel => exact ⟨pos + 1, rfl, hp2, Lib.hid HL.out.1⟩
          case measure =>
            simp
            omega
        | false =>
          go_wp2_with fail
          refine HC.out.mono ?_
          rintro e w1 ⟨rfl, rfl⟩
          go_wp2_with fail
          go_ret
          exact ⟨_, rfl, by rw [HL.out.2 trivial]; simp, by omega, by omega, HF.out⟩
      · have hnx : ∀ ty, (Instr.next (.pointer (some ⟨w.heap.size, 0, none⟩)) true ty).run Try.prog (w.iter s pos) = _ := fun ty => run_next_any w s pos ty hlt
        have hhi := decode_high s pos hlt (by omega)
        have hle := decode_le s pos
        have hall := hbad (by rw [isLoc_R]; unfold isLocR; rw [decide_eq_false_iff_not]; omega)
        obtain ⟨d, hd⟩ : ∃ d, d = (Utf8.decode s pos).1 := ⟨_, rfl⟩
        obtain ⟨d2, hd2⟩ : ∃ d, d = (Utf8.decode s pos).2 := ⟨_, rfl⟩
        rw [← hd, ← hd2] at hnx
        rw [← hd] at hhi hle
        have HC := Lib.hid (nforeign_any d (by omega) (w.iter s (pos + d2)))
        rw [show isLocR d = false from by unfold isLocR; rw [decide_eq_false_iff_not]; omega] at HC
        have hF : Fr (fun _ => False) w (w.iter s (pos + d2)) := (Fr.refl _ w).alloc _
        have HF := Lib.hid (And.intro hF hall)
        clear hts hbad h128 hd hd2 HA hF hall hhi hle
        go_wp2_with fail
        refine HC.out.mono ?_
        rintro e w1 ⟨rfl, rfl⟩
        go_wp2_with fail
        go_ret
        exact ⟨_, rfl, by rw [HF.out.2]; simp, by omega, by omega, HF.out.1⟩
    · have hnx : ∀ ty, (Instr.next (.pointer (some ⟨w.heap.size, 0, none⟩)) true ty).run Try.prog (w.iter s pos) = _ := fun ty => run_next_end w s pos ty hlt
      have hd := HA.out
      rw [List.take_of_length_le (by rw [← size_list]; omega)] at hd
      have hF : Fr (fun _ => False) w (w.iter s pos) := (Fr.refl _ w).alloc _
      have HF := Lib.hid (And.intro hF hd)
      clear hd hF HA
      go_wp2_with fail
      go_ret
      exact ⟨-1, rfl, by rw [HF.out.2]; rfl, by omega, by omega, HF.out.1⟩
set_option maxRecDepth 100000 in
theorem contains_any (s : ByteArray) (hs : s.size ≤ 1000) (w : World) : Calls Try.prog 78 #[.string s, .func (.func 79) #[] #[]] w fun e w' => e = .returned (.bool (!(s.data.toList.all isLoc))) ∧ Fr (fun _ => False) w w' := by
  have HI : Calls Try.prog 102 #[.string s, .func (.func 79) #[] #[]] w (IdxS s w) := by
    have H := Lib.hid (index_any s hs w)
    go_enter Try.func102, Try.ntmps102
    go_wp2_with fail
    refine H.out.mono ?_
    rintro e w1 ⟨n, rfl, h1, h2, h3, h4⟩
    have HH := Lib.hid (And.intro h1 h4)
    clear h1 h4
    go_wp2_with fail
    go_ret
    exact ⟨n, rfl, HH.out.1, h2, h3, HH.out.2⟩
  have H := Lib.hid HI
  obtain ⟨b, hb⟩ : ∃ b, b = !(s.data.toList.all isLoc) := ⟨_, rfl⟩
  rw [← hb]
  have HB := Lib.hid hb
  clear hb HI
  go_enter Try.func78, Try.ntmps78
  go_wp2_with fail
  refine H.out.mono ?_
  rintro e w1 ⟨n, rfl, h1, h2, h3, h4⟩
  rw [← HB.out] at h1
  have HH := Lib.hid (And.intro h1 h4)
  clear h1 h4
  go_wp2_with fail
  go_ret
  exact ⟨by rw [← HH.out.1]; rfl, HH.out.2⟩
set_option maxRecDepth 100000 in
theorem nlocator_any (s : ByteArray) (w : World) (hs : s.size ≤ 1000) : Calls Try.prog 39 #[.string s] w fun e w' => e = .returned (.bool (locB s.data.toList)) ∧ Fr (fun _ => False) w w' := by
  have H := Lib.hid (contains_any s hs w)
  obtain ⟨b, hb⟩ : ∃ b, b = s.data.toList.all isLoc := ⟨_, rfl⟩
  obtain ⟨r, hr⟩ : ∃ r, r = locB s.data.toList := ⟨_, rfl⟩
  rw [← hr]
  unfold locB at hr
  rw [← hb] at hr
  rw [← hb] at H
  by_cases h6 : s.size = 6
  · have hb6 : ((s.size : Int) == 6) = true := by rw [beq_iff_eq]; omega
    rw [decide_eq_true (by rw [← size_list]; exact h6), Bool.and_true] at hr
    have HR := Lib.hid hr
    clear hb hr h6
    go_enter Try.func39, Try.ntmps39
    go_wp2_with fail
    refine H.out.mono ?_
    rintro e w1 ⟨rfl, h1⟩
    have HH := Lib.hid h1
    clear h1
    go_wp2_with fail
    go_ret
    exact ⟨by rw [HR.out]; cases b <;> rfl, HH.out⟩
  · have hb6 : ((s.size : Int) == 6) = false := by rw [beq_eq_false_iff_ne]; omega
    rw [decide_eq_false (by rw [← size_list]; exact h6), Bool.and_false] at hr
    subst hr
    clear hb h6 H
    go_enter Try.func39, Try.ntmps39
    go_wp2_with fail
    go_ret
    exact ⟨rfl, Fr.refl _ _⟩
end Go.Proofs.Ytmopkfjnjbimnaa

namespace Go.Proofs.Ytmopkfjnjbimnaa
open Go.RowKit

set_option maxRecDepth 100000 in
theorem pmay_any (n : Int) (w : World) : Calls Try.prog 82 #[.int .i64 n] w fun e w' => e = .returned (.bool (mayS n)) ∧ w' = w := by
  by_cases h1 : n ≥ 1
  · by_cases h2 : n ≤ 9
    · have hm : mayS n = true := decide_eq_true ⟨h1, h2⟩
      rw [hm]
      go_enter Try.func82, Try.ntmps82
      go_wp2_with fail
      go_ret
      exact ⟨rfl, rfl⟩
    · have hm : mayS n = false := decide_eq_false (fun q => h2 q.2)
      rw [hm]
      go_enter Try.func82, Try.ntmps82
      go_wp2_with fail
      go_ret
      exact ⟨rfl, rfl⟩
  · have hm : mayS n = false := decide_eq_false (fun q => h1 q.1)
    rw [hm]
    go_enter Try.func82, Try.ntmps82
    go_wp2_with fail
    go_ret
    exact ⟨rfl, rfl⟩
def bitsN : Nat → Nat
  | 1 => 996
  | 2 => 10
  | 3 => 20
  | 8 => 66
  | 9 => 18
  | _ => 0
def bitsS (a : Int) : Int := if mayS a then (bitsN a.toNat : Nat) else 0
set_option maxRecDepth 100000 in
theorem bits_zero : all9 (fun a => (bitsN a == 0) == (nextL a).isEmpty) = true := by decide +kernel
set_option maxRecDepth 100000 in
theorem pbits_any (a : Int) (w : World) : Calls Try.prog 89 #[.int .i64 a] w fun e w' => e = .returned (.int .u64 (bitsS a)) ∧ w' = w := by
  by_cases h1 : a = 1
  · subst h1
    rw [show bitsS 1 = 996 from rfl]
    go_enter Try.func89, Try.ntmps89
    go_wp2_with fail
    go_ret
    exact ⟨rfl, rfl⟩
  by_cases h2 : a = 2
  · subst h2
    rw [show bitsS 2 = 10 from rfl]
    go_enter Try.func89, Try.ntmps89
    go_wp2_with fail
    go_ret
    exact ⟨rfl, rfl⟩
  by_cases h3 : a = 3
  · subst h3
    rw [show bitsS 3 = 20 from rfl]
    go_enter Try.func89, Try.ntmps89
    go_wp2_with fail
    go_ret
    exact ⟨rfl, rfl⟩
  by_cases h8 : a = 8
  · subst h8
    rw [show bitsS 8 = 66 from rfl]
    go_enter Try.func89, Try.ntmps89
    go_wp2_with fail
    go_ret
    exact ⟨rfl, rfl⟩
  by_cases h9 : a = 9
  · subst h9
    rw [show bitsS 9 = 18 from rfl]
    go_enter Try.func89, Try.ntmps89
    go_wp2_with fail
    go_ret
    exact ⟨rfl, rfl⟩
  have hb : bitsS a = 0 := by
    unfold bitsS
    split
    · rename_i hm
      have hr : 1 ≤ a ∧ a ≤ 9 := of_decide_eq_true hm
      have : a = 4 ∨ a = 5 ∨ a = 6 ∨ a = 7 := by omega
      rcases this with rfl | rfl | rfl | rfl <;> rfl
    · rfl
  rw [hb]
  have e1 : (a == 1) = false := by simpa using h1
  have e2 : (a == 2) = false := by simpa using h2
  have e3 : (a == 3) = false := by simpa using h3
  have e8 : (a == 8) = false := by simpa using h8
  have e9 : (a == 9) = false := by simpa using h9
  clear h1 h2 h3 h8 h9 hb
  go_enter Try.func89, Try.ntmps89
  go_wp2_with fail
  go_ret
  exact ⟨rfl, rfl⟩
set_option maxRecDepth 100000 in
theorem bits_last (a : Int) (hm : mayS a = true) : (bitsS a == 0) = (nextL a.toNat).isEmpty := by
  have hr : 1 ≤ a ∧ a ≤ 9 := of_decide_eq_true hm
  have := all9_of bits_zero (n := a.toNat) (by omega) (by omega)
  rw [beq_iff_eq] at this
  rw [← this]
  unfold bitsS
  rw [if_pos hm, Bool.eq_iff_iff, beq_iff_eq, beq_iff_eq]
  omega
set_option maxRecDepth 100000 in
theorem plive_any (a : Int) (w : World) : Calls Try.prog 61 #[.int .i64 a] w fun e w' => e = .returned (.bool (liveS a)) ∧ w' = w := by
  have HB := Lib.hid (pbits_any a)
  have hl : liveS a = (bitsS a != 0) := by
    unfold liveS
    cases hm : mayS a with
    | false => unfold bitsS; rw [hm]; rfl
    | true => rw [← bits_last a hm]; rfl
  rw [hl]
  clear hl
  obtain ⟨x, hx⟩ : ∃ x, x = bitsS a := ⟨_, rfl⟩
  rw [← hx] at HB ⊢
  clear hx
  go_enter Try.func61, Try.ntmps61
  go_wp2_with fail
  refine (HB.out _).mono ?_
  rintro e w' ⟨rfl, rfl⟩
  go_wp2_with fail
  go_ret
  exact ⟨rfl, rfl⟩
set_option maxRecDepth 100000 in
theorem lead_bits (a b : Int) (hm : mayS b = true) : (bits BinOp.and IntKind.u64 (bitsS a / 2 ^ b.toNat) 1 == 1) = leadsS a b := by
  have hr : 1 ≤ b ∧ b ≤ 9 := of_decide_eq_true hm
  cases hma : mayS a with
  | false =>
    have h1 : bitsS a = 0 := by unfold bitsS; rw [hma]; rfl
    have h2 : leadsS a b = false := by unfold leadsS; rw [hma]; rfl
    rw [h1, h2, Int.zero_ediv]
    rfl
  | true =>
    have hs : 1 ≤ a ∧ a ≤ 9 := of_decide_eq_true hma
    have ha : a = 1 ∨ a = 2 ∨ a = 3 ∨ a = 4 ∨ a = 5 ∨ a = 6 ∨ a = 7 ∨ a = 8 ∨ a = 9 := by omega
    have hb : b = 1 ∨ b = 2 ∨ b = 3 ∨ b = 4 ∨ b = 5 ∨ b = 6 ∨ b = 7 ∨ b = 8 ∨ b = 9 := by omega
    clear hm hma hr hs
    rcases ha with rfl | rfl | rfl | rfl | rfl | rfl | rfl | rfl | rfl <;> rcases hb with rfl | rfl | rfl | rfl | rfl | rfl | rfl | rfl | rfl <;> decide +kernel
set_option maxRecDepth 100000 in
theorem pleads_any (a b : Int) (w : World) : Calls Try.prog 52 #[.int .i64 a, .int .i64 b] w fun e w' => e = .returned (.bool (leadsS a b)) ∧ w' = w := by
  have HM := Lib.hid (pmay_any b)
  have HB := Lib.hid (pbits_any a)
  cases hm : mayS b with
  | false =>
    have e : leadsS a b = false := by unfold leadsS; rw [hm]; simp
    rw [hm] at HM
    rw [e]
    clear hm e
    go_enter Try.func52, Try.ntmps52
    go_wp2_with fail
    refine (HM.out _).mono ?_
    rintro e w' ⟨rfl, rfl⟩
    go_wp2_with fail
    go_ret
    exact ⟨rfl, rfl⟩
  | true =>
    rw [hm] at HM
    have hr : 1 ≤ b ∧ b ≤ 9 := of_decide_eq_true hm
    obtain ⟨x, hx⟩ : ∃ x, x = bitsS a := ⟨_, rfl⟩
    rw [← hx] at HB
    have hb0 : (0 : Int) ≤ b := by omega
    have hm0 := hm
    clear hm
    rw [← lead_bits a b hm0]
    clear hm0
    go_enter Try.func52, Try.ntmps52
    go_wp2_with fail
    refine (HM.out _).mono ?_
    rintro e w' ⟨rfl, rfl⟩
    go_wp2_with fail
    subst hx
    refine (HB.out _).mono ?_
    rintro e w' ⟨rfl, rfl⟩
    go_wp2_with fail
    go_ret
    exact ⟨rfl, rfl⟩
end Go.Proofs.Ytmopkfjnjbimnaa

namespace Go.Proofs.Ytmopkfjnjbimnaa
open Go.RowKit

def mayF (n : Int) : Bool := decide (-1000000000000 ≤ n ∧ n ≤ 1000000000000)
end Go.Proofs.Ytmopkfjnjbimnaa

namespace Go.Proofs.Ytmopkfjnjbimnaa
open Go.RowKit

set_option maxRecDepth 100000 in
theorem fmay_any (n : Int) (w : World) : Calls Try.prog 103 #[.int .i64 n] w fun e w' => e = .returned (.bool (mayF n)) ∧ w' = w := by
  by_cases h1 : n ≥ -1000000000000
  · by_cases h2 : n ≤ 1000000000000
    · have hm : mayF n = true := decide_eq_true ⟨h1, h2⟩
      rw [hm]
      go_enter Try.func103, Try.ntmps103
      go_wp2_with fail
      go_ret
      exact ⟨rfl, rfl⟩
    · have hm : mayF n = false := decide_eq_false (fun q => h2 q.2)
      rw [hm]
      go_enter Try.func103, Try.ntmps103
      go_wp2_with fail
      go_ret
      exact ⟨rfl, rfl⟩
  · have hm : mayF n = false := decide_eq_false (fun q => h1 q.1)
    rw [hm]
    go_enter Try.func103, Try.ntmps103
    go_wp2_with fail
    go_ret
    exact ⟨rfl, rfl⟩
end Go.Proofs.Ytmopkfjnjbimnaa

