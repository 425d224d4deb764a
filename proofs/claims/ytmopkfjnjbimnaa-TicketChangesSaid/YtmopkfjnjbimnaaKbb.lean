/- Kbb: laid together out of Ref Rput Tref. -/
import Derived.Deep.QuietTactic
import Derived.BigQuiet
import Derived.OwnWalk
import Derived.Test.YtmopkfjnjbimnaaKba
namespace Go.Proofs.Ytmopkfjnjbimnaa
open Go.RowKit

set_option maxRecDepth 100000 in
theorem power_any (k : Nat) (hk : k ≤ 7) (w : World) : Calls Try.prog 112 #[.int .i64 k] w fun e w' => e = .returned (.int .u64 ((256 ^ k : Nat) : Int)) ∧ w = w' := by
  have h : k = 0 ∨ k = 1 ∨ k = 2 ∨ k = 3 ∨ k = 4 ∨ k = 5 ∨ k = 6 ∨ k = 7 := by omega
  obtain ⟨p, hp⟩ : ∃ p : Nat, p = 256 ^ k := ⟨_, rfl⟩
  have hle : p ≤ 72057594037927936 := by rw [hp]; rcases h with rfl | rfl | rfl | rfl | rfl | rfl | rfl | rfl <;> decide
  rw [← hp]
  have HP := Lib.hid hp
  clear h hp hle
  go_enter Try.func112, Try.ntmps112
  go_wp2_with fail
  go_loop [3, 4] (fun n i => ∃ j : Nat, j ≤ k ∧ i = .int .i64 j ∧ n = .int .u64 ((256 ^ j : Nat) : Int)) (fun _ i => k - (intOf i).toNat)
  case atStart => exact ⟨0, by omega, rfl, rfl⟩
  case round =>
    obtain ⟨j, hj, rfl, rfl⟩ := hrel
    by_cases hlt : j < k
    · have hpow : 256 ^ j ≤ 281474976710656 := by
        have : 256 ^ j ≤ 256 ^ 6 := Nat.pow_le_pow_right (by omega) (by omega)
        exact this
      have hnx : 256 ^ (j + 1) = 256 ^ j * 256 := Nat.pow_succ 256 j
      have HN := Lib.hid hnx
      clear hnx
      generalize 256 ^ j = q at *
      go_wp2_with fail
      refine ⟨⟨j + 1, by omega, by go_num, congrArg (Value.int .u64) ?_⟩, by simp [intOf]; omega⟩
      rw [HN.out]
      omega
    · obtain rfl : j = k := by omega
      rw [← HP.out]
      clear hlt
      go_wp2_with fail
      go_ret
      exact ⟨rfl, rfl⟩

set_option maxRecDepth 100000 in
theorem rmay_yes (s : Int) (h : maySz s = true) (w : World) : Calls Try.prog 111 #[.int .i64 s] w fun e w' => e = .returned (.bool true) ∧ w = w' := by
  have hs : s = 1 ∨ s = 2 ∨ s = 4 ∨ s = 8 := by simpa [maySz, or_assoc] using h
  rcases hs with rfl | rfl | rfl | rfl
  all_goals
    go_enter Try.func111, Try.ntmps111
    go_wp2
    go_ret
    exact ⟨rfl, rfl⟩
set_option maxRecDepth 100000 in
theorem rmay_no (s : Int) (h : maySz s = false) (w : World) : Calls Try.prog 111 #[.int .i64 s] w fun e w' => e = .returned (.bool false) ∧ w = w' := by
  have h1 : (s == 1) = false := by cases h1 : s == 1 <;> simp_all [maySz]
  have h2 : (s == 2) = false := by cases h1 : s == 2 <;> simp_all [maySz]
  have h3 : (s == 4) = false := by cases h1 : s == 4 <;> simp_all [maySz]
  have h4 : (s == 8) = false := by cases h1 : s == 8 <;> simp_all [maySz]
  clear h
  go_enter Try.func111, Try.ntmps111
  go_wp2
  go_ret
  exact ⟨rfl, rfl⟩

set_option maxRecDepth 100000 in
theorem pow1 (w : World) : Calls Try.prog 112 #[.int .i64 1] w fun e w' => e = .returned (.int .u64 256) ∧ w = w' := power_any 1 (by omega) w
set_option maxRecDepth 100000 in
theorem pow2 (w : World) : Calls Try.prog 112 #[.int .i64 2] w fun e w' => e = .returned (.int .u64 65536) ∧ w = w' := power_any 2 (by omega) w
set_option maxRecDepth 100000 in
theorem pow4 (w : World) : Calls Try.prog 112 #[.int .i64 4] w fun e w' => e = .returned (.int .u64 4294967296) ∧ w = w' := power_any 4 (by omega) w

set_option maxRecDepth 100000 in
theorem rnum_no (n : Nat) (hn : n ≤ 18446744073709551615) (s : Int) (hs : numOk n s = false) (w : World) :
    Calls Try.prog 88 #[.int .u64 n, .int .i64 s] w fun e w' => e = .returned (.tuple #[.slice none 0 0, .bool false]) ∧ w = w' := by
  have hs' : ¬ ((s = 1 ∧ n < 256) ∨ (s = 2 ∧ n < 65536) ∨ (s = 4 ∧ n < 4294967296) ∨ s = 8) := by simpa [numOk] using hs
  cases hm : maySz s with
  | false =>
    have hm' := Lib.hid (rmay_no s hm)
    clear hm hs hs' hn
    go_enter Try.func88, Try.ntmps88
    go_wp2_with fail
    (with_reducible refine (hm'.out _).mono ?_)
    rintro e w' ⟨rfl, rfl⟩
    go_wp2_with fail
    go_ret2
    exact ⟨rfl, rfl⟩
  | true =>
    have hm' : s = 1 ∨ s = 2 ∨ s = 4 ∨ s = 8 := by simpa [maySz, or_assoc] using hm
    clear hm
    have hq : (s = 1 ∧ 256 ≤ n) ∨ (s = 2 ∧ 65536 ≤ n) ∨ (s = 4 ∧ 4294967296 ≤ n) := by omega
    clear hm' hs hs' hn
    rcases hq with ⟨rfl, hq⟩ | ⟨rfl, hq⟩ | ⟨rfl, hq⟩
    · have hd : decide (256 ≤ (n : Int)) = true := by rw [decide_eq_true_eq]; omega
      clear hq
      go_enter Try.func88, Try.ntmps88
      go_wp2_with fail
      refine (rmay_yes _ rfl _).mono ?_
      rintro e w' ⟨rfl, rfl⟩
      go_wp2_with fail
      refine (pow1 _).mono ?_
      rintro e w' ⟨rfl, rfl⟩
      go_wp2_with fail
      go_ret2
      exact ⟨rfl, rfl⟩
    · have hd : decide (65536 ≤ (n : Int)) = true := by rw [decide_eq_true_eq]; omega
      clear hq
      go_enter Try.func88, Try.ntmps88
      go_wp2_with fail
      refine (rmay_yes _ rfl _).mono ?_
      rintro e w' ⟨rfl, rfl⟩
      go_wp2_with fail
      refine (pow2 _).mono ?_
      rintro e w' ⟨rfl, rfl⟩
      go_wp2_with fail
      go_ret2
      exact ⟨rfl, rfl⟩
    · have hd : decide (4294967296 ≤ (n : Int)) = true := by rw [decide_eq_true_eq]; omega
      clear hq
      go_enter Try.func88, Try.ntmps88
      go_wp2_with fail
      refine (rmay_yes _ rfl _).mono ?_
      rintro e w' ⟨rfl, rfl⟩
      go_wp2_with fail
      refine (pow4 _).mono ?_
      rintro e w' ⟨rfl, rfl⟩
      go_wp2_with fail
      go_ret2
      exact ⟨rfl, rfl⟩

set_option maxRecDepth 100000 in
/-- The first bytes of a number, one by one. -/
theorem be_take (n s j : Nat) (h : j < s) : (be n s).take (j + 1) = (be n s).take j ++ [UInt8.ofNat (n / 256 ^ (s - 1 - j) % 256)] := by
  have hl : j < (be n s).length := by rw [be_len]; exact h
  rw [List.take_succ_eq_append_getElem hl]
  congr 2
  simp [be]

set_option maxHeartbeats 1000000 in
set_option maxRecDepth 100000 in
theorem rnum1 (n : Nat) (hn : n ≤ 18446744073709551615) (hs : n < 256) (w : World) :
    Calls Try.prog 88 #[.int .u64 n, .int .i64 1] w fun e w' => ∃ v, e = .returned (.tuple #[v, .bool true]) ∧ Makes w (be n 1) v w' := by
  obtain ⟨i0, hi, hz0, hz1, hz2⟩ := info_parts infoU8
  have HN := Lib.hid hn
  clear hn
  have hd : decide (256 ≤ (n : Int)) = false := by rw [decide_eq_false_iff_not]; omega
  clear hs
  go_enter Try.func88, Try.ntmps88
  go_wp2_with fail
  refine (rmay_yes _ rfl _).mono ?_
  rintro e w' ⟨rfl, rfl⟩
  go_wp2_with fail
  refine (pow1 _).mono ?_
  rintro e w' ⟨rfl, rfl⟩
  go_wp2_with fail
  clear hd
  go_loopw [6, 7] (fun x i wr => ∃ (j : Nat) (v : Value) (q : Int), v = x ∧ i = .int .i64 q ∧ j ≤ 1 ∧ q + j + 1 = 1 ∧ Hid (wr.ownsRow w.heap.size 5 1 v ((be n 1).take j).length (cellsB ((be n 1).take j))) ∧ Fr (fun _ => False) w wr) (fun _ i _ => (intOf i + 1).toNat)
  case atStart => exact ⟨0, _, 0, rfl, rfl, by omega, by omega, World.ownsRow_nil _ _ _ _, Fr.refl _ _⟩
  case round =>
    obtain ⟨j, v, q, rfl, rfl, hj, hq, HO, hf⟩ := hrel
    by_cases h0 : 0 ≤ q
    · obtain ⟨p, rfl⟩ := Int.eq_ofNat_of_zero_le h0
      have hbt := be_take n 1 j (by omega)
      rw [show 1 - 1 - j = p from by omega] at hbt
      have HB := Lib.hid hbt
      clear hbt
      go_wp2_with fail
      refine (power_any p (by omega) _).mono ?_
      rintro e w' ⟨rfl, rfl⟩
      have hQ : 0 < 256 ^ p := Nat.pow_pos (by omega)
      have hqv : IntKind.u64.wrap ((n : Int) / ((256 ^ p : Nat) : Int)) = ((n / 256 ^ p : Nat) : Int) := by
        rw [wrapU]
        have h1 : n / 256 ^ p ≤ n := Nat.div_le_self _ _
        have := HN.out
        have h2 : ((n / 256 ^ p : Nat) : Int) = (n : Int) / ((256 ^ p : Nat) : Int) := Int.natCast_ediv n (256 ^ p)
        rw [← h2]
        generalize n / 256 ^ p = z at *
        clear h2
        omega
      have hcv : ((UInt8.ofNat (n / 256 ^ p % 256)).toNat : Int) = ((n / 256 ^ p : Nat) : Int) % 256 := by rw [UInt8.toNat_ofNat']; omega
      have hrd := Rd.one wr 5 (UInt8.ofNat (n / 256 ^ p % 256))
      rw [hcv] at hrd
      have HR := Lib.hid hrd
      have HL : Hid (((be n 1).take j).length + 1 ≤ 140737488355328) := Lib.hid (by rw [List.length_take, be_len]; have := Nat.min_le_right j 1; omega)
      have HZ : Hid (w.heap.size ≤ (wr.alloc (.cells #[.int .u8 (((n / 256 ^ p : Nat) : Int) % 256)] 5)).heap.size) := Lib.hid (by have := hf.size; simp; omega)
      clear hrd hcv
      generalize 256 ^ p = Q at *
      generalize n / Q = D at *
      have HF := Lib.hid hf
      have hp7 : p ≤ 7 := by omega
      have HQ := Lib.hid (And.intro hj hq)
      clear hf hj hq
      go_wp2_with (at_builtin; refine wpList_append_bytes _ rfl _ _ 31 rfl w.heap.size 5 i0 (.int .u8 0) Try.underlying31 hi hz0 hz1 hz2 rfl v ((be n 1).take j) [UInt8.ofNat (D % 256)] rfl (World.ownsRow.alloc HO.out _) (some ⟨wr.heap.size, 0, none⟩) 1 1 rfl HR.out HL.out HZ.out ?_; intro v' w' hown hgrow hat)
      have := HQ.out
      refine ⟨⟨j + 1, v', (p : Int) - 1, rfl, rfl, by omega, by omega, Lib.hid (by rw [HB.out]; exact hown), (HF.out.alloc _).grown hgrow (fun k hk => .inr (HO.out.lt k hk).1)⟩, by simp [intOf]⟩
    · obtain rfl : j = 1 := by omega
      obtain rfl : q = -1 := by omega
      have HF := Lib.hid hf
      clear h0 hj hq hf
      go_wp2_with fail
      go_ret2
      have ht : (be n 1).take 1 = be n 1 := List.take_of_length_le (by rw [be_len]; omega)
      have ho := HO.out
      rw [ht] at ho
      exact ⟨v, rfl, ho, HF.out⟩

set_option maxHeartbeats 1000000 in
set_option maxRecDepth 100000 in
theorem rnum2 (n : Nat) (hn : n ≤ 18446744073709551615) (hs : n < 65536) (w : World) :
    Calls Try.prog 88 #[.int .u64 n, .int .i64 2] w fun e w' => ∃ v, e = .returned (.tuple #[v, .bool true]) ∧ Makes w (be n 2) v w' := by
  obtain ⟨i0, hi, hz0, hz1, hz2⟩ := info_parts infoU8
  have HN := Lib.hid hn
  clear hn
  have hd : decide (65536 ≤ (n : Int)) = false := by rw [decide_eq_false_iff_not]; omega
  clear hs
  go_enter Try.func88, Try.ntmps88
  go_wp2_with fail
  refine (rmay_yes _ rfl _).mono ?_
  rintro e w' ⟨rfl, rfl⟩
  go_wp2_with fail
  refine (pow2 _).mono ?_
  rintro e w' ⟨rfl, rfl⟩
  go_wp2_with fail
  clear hd
  go_loopw [6, 7] (fun x i wr => ∃ (j : Nat) (v : Value) (q : Int), v = x ∧ i = .int .i64 q ∧ j ≤ 2 ∧ q + j + 1 = 2 ∧ Hid (wr.ownsRow w.heap.size 5 1 v ((be n 2).take j).length (cellsB ((be n 2).take j))) ∧ Fr (fun _ => False) w wr) (fun _ i _ => (intOf i + 1).toNat)
  case atStart => exact ⟨0, _, 1, rfl, rfl, by omega, by omega, World.ownsRow_nil _ _ _ _, Fr.refl _ _⟩
  case round =>
    obtain ⟨j, v, q, rfl, rfl, hj, hq, HO, hf⟩ := hrel
    by_cases h0 : 0 ≤ q
    · obtain ⟨p, rfl⟩ := Int.eq_ofNat_of_zero_le h0
      have hbt := be_take n 2 j (by omega)
      rw [show 2 - 1 - j = p from by omega] at hbt
      have HB := Lib.hid hbt
      clear hbt
      go_wp2_with fail
      refine (power_any p (by omega) _).mono ?_
      rintro e w' ⟨rfl, rfl⟩
      have hQ : 0 < 256 ^ p := Nat.pow_pos (by omega)
      have hqv : IntKind.u64.wrap ((n : Int) / ((256 ^ p : Nat) : Int)) = ((n / 256 ^ p : Nat) : Int) := by
        rw [wrapU]
        have h1 : n / 256 ^ p ≤ n := Nat.div_le_self _ _
        have := HN.out
        have h2 : ((n / 256 ^ p : Nat) : Int) = (n : Int) / ((256 ^ p : Nat) : Int) := Int.natCast_ediv n (256 ^ p)
        rw [← h2]
        generalize n / 256 ^ p = z at *
        clear h2
        omega
      have hcv : ((UInt8.ofNat (n / 256 ^ p % 256)).toNat : Int) = ((n / 256 ^ p : Nat) : Int) % 256 := by rw [UInt8.toNat_ofNat']; omega
      have hrd := Rd.one wr 5 (UInt8.ofNat (n / 256 ^ p % 256))
      rw [hcv] at hrd
      have HR := Lib.hid hrd
      have HL : Hid (((be n 2).take j).length + 1 ≤ 140737488355328) := Lib.hid (by rw [List.length_take, be_len]; have := Nat.min_le_right j 2; omega)
      have HZ : Hid (w.heap.size ≤ (wr.alloc (.cells #[.int .u8 (((n / 256 ^ p : Nat) : Int) % 256)] 5)).heap.size) := Lib.hid (by have := hf.size; simp; omega)
      clear hrd hcv
      generalize 256 ^ p = Q at *
      generalize n / Q = D at *
      have HF := Lib.hid hf
      have hp7 : p ≤ 7 := by omega
      have HQ := Lib.hid (And.intro hj hq)
      clear hf hj hq
      go_wp2_with (at_builtin; refine wpList_append_bytes _ rfl _ _ 31 rfl w.heap.size 5 i0 (.int .u8 0) Try.underlying31 hi hz0 hz1 hz2 rfl v ((be n 2).take j) [UInt8.ofNat (D % 256)] rfl (World.ownsRow.alloc HO.out _) (some ⟨wr.heap.size, 0, none⟩) 1 1 rfl HR.out HL.out HZ.out ?_; intro v' w' hown hgrow hat)
      have := HQ.out
      refine ⟨⟨j + 1, v', (p : Int) - 1, rfl, rfl, by omega, by omega, Lib.hid (by rw [HB.out]; exact hown), (HF.out.alloc _).grown hgrow (fun k hk => .inr (HO.out.lt k hk).1)⟩, by simp [intOf]⟩
    · obtain rfl : j = 2 := by omega
      obtain rfl : q = -1 := by omega
      have HF := Lib.hid hf
      clear h0 hj hq hf
      go_wp2_with fail
      go_ret2
      have ht : (be n 2).take 2 = be n 2 := List.take_of_length_le (by rw [be_len]; omega)
      have ho := HO.out
      rw [ht] at ho
      exact ⟨v, rfl, ho, HF.out⟩

set_option maxHeartbeats 1000000 in
set_option maxRecDepth 100000 in
theorem rnum4 (n : Nat) (hn : n ≤ 18446744073709551615) (hs : n < 4294967296) (w : World) :
    Calls Try.prog 88 #[.int .u64 n, .int .i64 4] w fun e w' => ∃ v, e = .returned (.tuple #[v, .bool true]) ∧ Makes w (be n 4) v w' := by
  obtain ⟨i0, hi, hz0, hz1, hz2⟩ := info_parts infoU8
  have HN := Lib.hid hn
  clear hn
  have hd : decide (4294967296 ≤ (n : Int)) = false := by rw [decide_eq_false_iff_not]; omega
  clear hs
  go_enter Try.func88, Try.ntmps88
  go_wp2_with fail
  refine (rmay_yes _ rfl _).mono ?_
  rintro e w' ⟨rfl, rfl⟩
  go_wp2_with fail
  refine (pow4 _).mono ?_
  rintro e w' ⟨rfl, rfl⟩
  go_wp2_with fail
  clear hd
  go_loopw [6, 7] (fun x i wr => ∃ (j : Nat) (v : Value) (q : Int), v = x ∧ i = .int .i64 q ∧ j ≤ 4 ∧ q + j + 1 = 4 ∧ Hid (wr.ownsRow w.heap.size 5 1 v ((be n 4).take j).length (cellsB ((be n 4).take j))) ∧ Fr (fun _ => False) w wr) (fun _ i _ => (intOf i + 1).toNat)
  case atStart => exact ⟨0, _, 3, rfl, rfl, by omega, by omega, World.ownsRow_nil _ _ _ _, Fr.refl _ _⟩
  case round =>
    obtain ⟨j, v, q, rfl, rfl, hj, hq, HO, hf⟩ := hrel
    by_cases h0 : 0 ≤ q
    · obtain ⟨p, rfl⟩ := Int.eq_ofNat_of_zero_le h0
      have hbt := be_take n 4 j (by omega)
      rw [show 4 - 1 - j = p from by omega] at hbt
      have HB := Lib.hid hbt
      clear hbt
      go_wp2_with fail
      refine (power_any p (by omega) _).mono ?_
      rintro e w' ⟨rfl, rfl⟩
      have hQ : 0 < 256 ^ p := Nat.pow_pos (by omega)
      have hqv : IntKind.u64.wrap ((n : Int) / ((256 ^ p : Nat) : Int)) = ((n / 256 ^ p : Nat) : Int) := by
        rw [wrapU]
        have h1 : n / 256 ^ p ≤ n := Nat.div_le_self _ _
        have := HN.out
        have h2 : ((n / 256 ^ p : Nat) : Int) = (n : Int) / ((256 ^ p : Nat) : Int) := Int.natCast_ediv n (256 ^ p)
        rw [← h2]
        generalize n / 256 ^ p = z at *
        clear h2
        omega
      have hcv : ((UInt8.ofNat (n / 256 ^ p % 256)).toNat : Int) = ((n / 256 ^ p : Nat) : Int) % 256 := by rw [UInt8.toNat_ofNat']; omega
      have hrd := Rd.one wr 5 (UInt8.ofNat (n / 256 ^ p % 256))
      rw [hcv] at hrd
      have HR := Lib.hid hrd
      have HL : Hid (((be n 4).take j).length + 1 ≤ 140737488355328) := Lib.hid (by rw [List.length_take, be_len]; have := Nat.min_le_right j 4; omega)
      have HZ : Hid (w.heap.size ≤ (wr.alloc (.cells #[.int .u8 (((n / 256 ^ p : Nat) : Int) % 256)] 5)).heap.size) := Lib.hid (by have := hf.size; simp; omega)
      clear hrd hcv
      generalize 256 ^ p = Q at *
      generalize n / Q = D at *
      have HF := Lib.hid hf
      have hp7 : p ≤ 7 := by omega
      have HQ := Lib.hid (And.intro hj hq)
      clear hf hj hq
      go_wp2_with (at_builtin; refine wpList_append_bytes _ rfl _ _ 31 rfl w.heap.size 5 i0 (.int .u8 0) Try.underlying31 hi hz0 hz1 hz2 rfl v ((be n 4).take j) [UInt8.ofNat (D % 256)] rfl (World.ownsRow.alloc HO.out _) (some ⟨wr.heap.size, 0, none⟩) 1 1 rfl HR.out HL.out HZ.out ?_; intro v' w' hown hgrow hat)
      have := HQ.out
      refine ⟨⟨j + 1, v', (p : Int) - 1, rfl, rfl, by omega, by omega, Lib.hid (by rw [HB.out]; exact hown), (HF.out.alloc _).grown hgrow (fun k hk => .inr (HO.out.lt k hk).1)⟩, by simp [intOf]⟩
    · obtain rfl : j = 4 := by omega
      obtain rfl : q = -1 := by omega
      have HF := Lib.hid hf
      clear h0 hj hq hf
      go_wp2_with fail
      go_ret2
      have ht : (be n 4).take 4 = be n 4 := List.take_of_length_le (by rw [be_len]; omega)
      have ho := HO.out
      rw [ht] at ho
      exact ⟨v, rfl, ho, HF.out⟩

set_option maxHeartbeats 1000000 in
set_option maxRecDepth 100000 in
theorem rnum8 (n : Nat) (hn : n ≤ 18446744073709551615) (w : World) :
    Calls Try.prog 88 #[.int .u64 n, .int .i64 8] w fun e w' => ∃ v, e = .returned (.tuple #[v, .bool true]) ∧ Makes w (be n 8) v w' := by
  obtain ⟨i0, hi, hz0, hz1, hz2⟩ := info_parts infoU8
  have HN := Lib.hid hn
  clear hn
  go_enter Try.func88, Try.ntmps88
  go_wp2_with fail
  refine (rmay_yes _ rfl _).mono ?_
  rintro e w' ⟨rfl, rfl⟩
  go_wp2_with fail
  go_loopw [6, 7] (fun x i wr => ∃ (j : Nat) (v : Value) (q : Int), v = x ∧ i = .int .i64 q ∧ j ≤ 8 ∧ q + j + 1 = 8 ∧ Hid (wr.ownsRow w.heap.size 5 1 v ((be n 8).take j).length (cellsB ((be n 8).take j))) ∧ Fr (fun _ => False) w wr) (fun _ i _ => (intOf i + 1).toNat)
  case atStart => exact ⟨0, _, 7, rfl, rfl, by omega, by omega, World.ownsRow_nil _ _ _ _, Fr.refl _ _⟩
  case round =>
    obtain ⟨j, v, q, rfl, rfl, hj, hq, HO, hf⟩ := hrel
    by_cases h0 : 0 ≤ q
    · obtain ⟨p, rfl⟩ := Int.eq_ofNat_of_zero_le h0
      have hbt := be_take n 8 j (by omega)
      rw [show 8 - 1 - j = p from by omega] at hbt
      have HB := Lib.hid hbt
      clear hbt
      go_wp2_with fail
      refine (power_any p (by omega) _).mono ?_
      rintro e w' ⟨rfl, rfl⟩
      have hQ : 0 < 256 ^ p := Nat.pow_pos (by omega)
      have hqv : IntKind.u64.wrap ((n : Int) / ((256 ^ p : Nat) : Int)) = ((n / 256 ^ p : Nat) : Int) := by
        rw [wrapU]
        have h1 : n / 256 ^ p ≤ n := Nat.div_le_self _ _
        have := HN.out
        have h2 : ((n / 256 ^ p : Nat) : Int) = (n : Int) / ((256 ^ p : Nat) : Int) := Int.natCast_ediv n (256 ^ p)
        rw [← h2]
        generalize n / 256 ^ p = z at *
        clear h2
        omega
      have hcv : ((UInt8.ofNat (n / 256 ^ p % 256)).toNat : Int) = ((n / 256 ^ p : Nat) : Int) % 256 := by rw [UInt8.toNat_ofNat']; omega
      have hrd := Rd.one wr 5 (UInt8.ofNat (n / 256 ^ p % 256))
      rw [hcv] at hrd
      have HR := Lib.hid hrd
      have HL : Hid (((be n 8).take j).length + 1 ≤ 140737488355328) := Lib.hid (by rw [List.length_take, be_len]; have := Nat.min_le_right j 8; omega)
      have HZ : Hid (w.heap.size ≤ (wr.alloc (.cells #[.int .u8 (((n / 256 ^ p : Nat) : Int) % 256)] 5)).heap.size) := Lib.hid (by have := hf.size; simp; omega)
      clear hrd hcv
      generalize 256 ^ p = Q at *
      generalize n / Q = D at *
      have HF := Lib.hid hf
      have hp7 : p ≤ 7 := by omega
      have HQ := Lib.hid (And.intro hj hq)
      clear hf hj hq
      go_wp2_with (at_builtin; refine wpList_append_bytes _ rfl _ _ 31 rfl w.heap.size 5 i0 (.int .u8 0) Try.underlying31 hi hz0 hz1 hz2 rfl v ((be n 8).take j) [UInt8.ofNat (D % 256)] rfl (World.ownsRow.alloc HO.out _) (some ⟨wr.heap.size, 0, none⟩) 1 1 rfl HR.out HL.out HZ.out ?_; intro v' w' hown hgrow hat)
      have := HQ.out
      refine ⟨⟨j + 1, v', (p : Int) - 1, rfl, rfl, by omega, by omega, Lib.hid (by rw [HB.out]; exact hown), (HF.out.alloc _).grown hgrow (fun k hk => .inr (HO.out.lt k hk).1)⟩, by simp [intOf]⟩
    · obtain rfl : j = 8 := by omega
      obtain rfl : q = -1 := by omega
      have HF := Lib.hid hf
      clear h0 hj hq hf
      go_wp2_with fail
      go_ret2
      have ht : (be n 8).take 8 = be n 8 := List.take_of_length_le (by rw [be_len]; omega)
      have ho := HO.out
      rw [ht] at ho
      exact ⟨v, rfl, ho, HF.out⟩

set_option maxRecDepth 100000 in
/-- couponref01.Number. -/
theorem rnum_any (n : Nat) (hn : n ≤ 18446744073709551615) (s : Int) (hs : numOk n s = true) (w : World) :
    Calls Try.prog 88 #[.int .u64 n, .int .i64 s] w fun e w' => ∃ v, e = .returned (.tuple #[v, .bool true]) ∧ Makes w (be n s.toNat) v w' := by
  have h : (s = 1 ∧ n < 256) ∨ (s = 2 ∧ n < 65536) ∨ (s = 4 ∧ n < 4294967296) ∨ s = 8 := by simpa [numOk] using hs
  rcases h with ⟨rfl, h⟩ | ⟨rfl, h⟩ | ⟨rfl, h⟩ | rfl
  · exact rnum1 n hn h w
  · exact rnum2 n hn h w
  · exact rnum4 n hn h w
  · exact rnum8 n hn w
end Go.Proofs.Ytmopkfjnjbimnaa

namespace Go.Proofs.Ytmopkfjnjbimnaa
open Go.RowKit

/-- A slice that reads as l. -/
def Sl (w : World) (v : Value) (l : List UInt8) : Prop := ∃ A c, v = .slice A l.length c ∧ (A = none → c = 0) ∧ l.length ≤ c ∧ Rd w A l.length l
set_option maxRecDepth 100000 in
theorem Sl.of_own {w : World} {base e : Nat} {v : Value} {l : List UInt8} (h : w.ownsRow base e 1 v l.length (cellsB l)) : Sl w v l := by
  obtain ⟨A, c, rfl, hA, hc, _, hr⟩ := own_rd h
  exact ⟨A, c, rfl, hA, hc, hr⟩
set_option maxRecDepth 100000 in
theorem Sl.nil (w : World) : Sl w (.slice none 0 0) [] := ⟨none, 0, rfl, fun _ => rfl, Nat.le_refl _, Rd.nil _ _⟩
set_option maxRecDepth 100000 in
theorem Rd.new {w w' : World} {A : Option Addr} {n : Nat} {l : List UInt8} (h : Rd w A n l) (f : Fr (fun _ => False) w w') : Rd w' A n l := h.keep f (fun _ _ => id)
set_option maxRecDepth 100000 in
theorem Sl.new {w w' : World} {v : Value} {l : List UInt8} (h : Sl w v l) (f : Fr (fun _ => False) w w') : Sl w' v l := by
  obtain ⟨A, c, hv, hA, hc, hr⟩ := h
  exact ⟨A, c, hv, hA, hc, hr.new f⟩

/-- What Put puts (none: it fails). -/
def rput (k : Int) (n : Nat) (s : Int) (l : List UInt8) : Option (List UInt8) :=
  if k = 1 then (if numOk n s then some (be n s.toNat) else none)
  else if k = 2 then some (be n 8)
  else if k = 3 then some (be (n % 2) 1)
  else if k = 4 then some l
  else if k = 5 ∨ k = 6 then some (be l.length 4 ++ l)
  else if 0 ≤ s ∧ numOk s.toNat 2 = true then some (be s.toNat 2) else none

/-- Put's answer. -/
def PutR (w : World) (o : Option (List UInt8)) (e : Ending) (w' : World) : Prop := ∃ v, e = .returned (.tuple #[v, .bool o.isSome]) ∧ Sl w' v (o.getD []) ∧ Fr (fun _ => False) w w'

end Go.Proofs.Ytmopkfjnjbimnaa

namespace Go.Proofs.Ytmopkfjnjbimnaa
open Go.RowKit

/-- A slice that reads as l, and lies in A's block. -/
def Sub (w : World) (A : Option Addr) (v : Value) (l : List UInt8) : Prop :=
  ∃ A' c, v = .slice A' l.length c ∧ (A' = none → c = 0) ∧ l.length ≤ c ∧ Rd w A' l.length l ∧ (∀ ad', A' = some ad' → ∃ ad, A = some ad ∧ ad'.block = ad.block)
set_option maxRecDepth 100000 in
theorem Sub.nil (w : World) (A : Option Addr) : Sub w A (.slice none 0 0) [] := ⟨none, 0, rfl, fun _ => rfl, Nat.le_refl _, Rd.nil _ _, fun _ e => by cases e⟩
set_option maxRecDepth 100000 in
theorem Sub.new {w w' : World} {A : Option Addr} {v : Value} {l : List UInt8} (h : Sub w A v l) (f : Fr (fun _ => False) w w') : Sub w' A v l := by
  obtain ⟨A', c, hv, hA, hc, hr, hB⟩ := h
  exact ⟨A', c, hv, hA, hc, hr.new f, hB⟩
set_option maxRecDepth 100000 in
theorem Sub.sub {w : World} {A A' : Option Addr} {v : Value} {l : List UInt8} (h : Sub w A' v l) (hB : ∀ ad', A' = some ad' → ∃ ad, A = some ad ∧ ad'.block = ad.block) : Sub w A v l := by
  obtain ⟨A2, c, hv, hA, hc, hr, hB2⟩ := h
  refine ⟨A2, c, hv, hA, hc, hr, fun ad e => ?_⟩
  obtain ⟨a1, e1, h1⟩ := hB2 ad e
  obtain ⟨a2, e2, h2⟩ := hB a1 e1
  exact ⟨a2, e2, h1.trans h2⟩
set_option maxRecDepth 100000 in
theorem Rd.sub {w : World} {A : Option Addr} {c : Nat} {l : List UInt8} (hr : Rd w A l.length l) (hnc : l.length ≤ c) (hA : A = none → c = 0) : Sub w A (.slice A l.length c) l :=
  ⟨A, c, rfl, hA, hnc, hr, fun ad e => ⟨ad, e, rfl⟩⟩

set_option maxRecDepth 100000 in
theorem power_int (i : Int) (k : Nat) (h : i = k) (hk : k ≤ 7) (w : World) : Calls Try.prog 112 #[.int .i64 i] w fun e w' => e = .returned (.int .u64 ((256 ^ k : Nat) : Int)) ∧ w' = w := by
  subst h
  exact (power_any k hk w).mono fun _ _ ⟨h, e⟩ => ⟨h, e.symm⟩

/-- What the first bytes of a number of so many are worth. -/
def part (l : List UInt8) (j : Nat) : Nat := numOf (l.take j) * 256 ^ (l.length - j)
set_option maxRecDepth 100000 in
theorem part_next {l : List UInt8} {j : Nat} {x : UInt8} (h : l[j]? = some x) : part l (j + 1) = part l j + x.toNat * 256 ^ (l.length - 1 - j) := by
  have hj : j < l.length := by
    rcases Nat.lt_or_ge j l.length with h' | h'
    · exact h'
    · rw [List.getElem?_eq_none h'] at h; cases h
  have e : l.take (j + 1) = l.take j ++ [x] := by
    rw [List.take_succ_eq_append_getElem hj]
    rw [List.getElem?_eq_getElem hj] at h
    injection h with h
    rw [h]
  have e1 : numOf [x] = x.toNat := by simp [numOf]
  have e2 : l.length - j = (l.length - 1 - j) + 1 := by omega
  have e3 : l.length - (j + 1) = l.length - 1 - j := by omega
  unfold part
  rw [e, numOf_app, e1, e3, e2, Nat.pow_succ', Nat.add_mul, List.length_singleton, Nat.pow_one]
  simp only [Nat.mul_assoc]
set_option maxRecDepth 100000 in
theorem part_lt (l : List UInt8) (j : Nat) (hj : j ≤ l.length) : part l j < 256 ^ l.length := by
  unfold part
  have h := numOf_lt (l.take j)
  rw [List.length_take, Nat.min_eq_left hj] at h
  have e : 256 ^ l.length = 256 ^ j * 256 ^ (l.length - j) := by rw [← Nat.pow_add]; congr 1; omega
  rw [e]
  exact Nat.mul_lt_mul_of_pos_right h (Nat.pow_pos (by omega))

/-- What is taken, of a kind and a size: a number, bytes, what is left, has it gone well? -/
def tOk (k s : Int) (l : List UInt8) : Bool := if k = 1 then tkOk l s else if k = 2 then tkOk l 8 else if k = 3 then flOk l else if k = 4 then byOk l s else if k = 5 ∨ k = 6 then blOk l else tkOk l 2
def tNum (k s : Int) (l : List UInt8) : Nat := if k = 1 then tkNum l s else if k = 2 then tkNum l 8 else if k = 3 then (if tkNum l 1 = 1 then 1 else 0) else if k = 4 then 0 else if k = 5 ∨ k = 6 then 0 else tkNum l 2
def tGot (k s : Int) (l : List UInt8) : List UInt8 := if k = 4 then byGot l s else if k = 5 ∨ k = 6 then blGot l else []
def tRest (k s : Int) (l : List UInt8) : List UInt8 := if k = 1 then tkRest l s else if k = 2 then tkRest l 8 else if k = 3 then flRest l else if k = 4 then byRest l s else if k = 5 ∨ k = 6 then blRest l else tkRest l 2

set_option maxRecDepth 100000 in
theorem results_tmp4 {fn : Func} {t u v x : Tmp} (h : fn.results = #[.tmp t, .tmp u, .tmp v, .tmp x]) (tmps : Array Value) (P : Program) (w : World) :
    (results fn tmps).run P w = .ok (.tuple #[tmps.getD t undef, tmps.getD u undef, tmps.getD v undef, tmps.getD x undef]) w := by
  simp [results, h]
def szOf (k s : Int) : Int := if k = 1 then s else if k = 2 then 8 else 2

end Go.Proofs.Ytmopkfjnjbimnaa

