/- couponref01: Cut, TakeNumber. -/
import Derived.Test.YthmjfbefekicdaaRput
import Derived.Test.YthmjfbefekicdaaRest
import Derived.Deep.QuietTactic
import Derived.BigQuiet
import Derived.OwnWalk
namespace Go.Proofs.Ythmjfbefekicdaa
open Go.RowKit

/-- A slice that reads as l, and lies in A's block. -/
def Sub (w : World) (A : Option Addr) (v : Value) (l : List UInt8) : Prop :=
  ∃ A' c, v = .slice A' l.length c ∧ (A' = none → c = 0) ∧ l.length ≤ c ∧ Rd w A' l.length l ∧ (∀ ad', A' = some ad' → ∃ ad, A = some ad ∧ ad'.block = ad.block)
theorem Sub.nil (w : World) (A : Option Addr) : Sub w A (.slice none 0 0) [] := ⟨none, 0, rfl, fun _ => rfl, Nat.le_refl _, Rd.nil _ _, fun _ e => by cases e⟩
theorem Sub.new {w w' : World} {A : Option Addr} {v : Value} {l : List UInt8} (h : Sub w A v l) (f : Fr (fun _ => False) w w') : Sub w' A v l := by
  obtain ⟨A', c, hv, hA, hc, hr, hB⟩ := h
  exact ⟨A', c, hv, hA, hc, hr.new f, hB⟩
theorem Sub.sub {w : World} {A A' : Option Addr} {v : Value} {l : List UInt8} (h : Sub w A' v l) (hB : ∀ ad', A' = some ad' → ∃ ad, A = some ad ∧ ad'.block = ad.block) : Sub w A v l := by
  obtain ⟨A2, c, hv, hA, hc, hr, hB2⟩ := h
  refine ⟨A2, c, hv, hA, hc, hr, fun ad e => ?_⟩
  obtain ⟨a1, e1, h1⟩ := hB2 ad e
  obtain ⟨a2, e2, h2⟩ := hB a1 e1
  exact ⟨a2, e2, h1.trans h2⟩
theorem Rd.sub {w : World} {A : Option Addr} {c : Nat} {l : List UInt8} (hr : Rd w A l.length l) (hnc : l.length ≤ c) (hA : A = none → c = 0) : Sub w A (.slice A l.length c) l :=
  ⟨A, c, rfl, hA, hnc, hr, fun ad e => ⟨ad, e, rfl⟩⟩

theorem cut_no {w : World} {A : Option Addr} {c : Nat} {l : List UInt8} (hn : l.length ≤ 70368744177664) (s : Int) (ht : byOk l s = false) :
    Calls Try.prog 50 #[.slice A l.length c, .int .i64 s] w fun e w' => e = .returned (.tuple #[.slice none 0 0, .slice none 0 0, .bool false]) ∧ w = w' := by
  have hq : s < 0 ∨ (l.length : Int) < s := by simp [byOk] at ht; omega
  clear ht
  by_cases h0 : s < 0
  · have hd : decide (s < 0) = true := by rw [decide_eq_true_eq]; exact h0
    clear hq h0
    go_enter Try.func50, Try.ntmps50
    go_wp2
    go_ret3
    exact ⟨rfl, rfl⟩
  · have hd : decide (s < 0) = false := by rw [decide_eq_false_iff_not]; exact h0
    have hd2 : decide ((l.length : Int) < s) = true := by rw [decide_eq_true_eq]; omega
    clear hq h0
    go_enter Try.func50, Try.ntmps50
    go_wp2
    go_ret3
    exact ⟨rfl, rfl⟩

theorem cut_ok {w : World} {A : Option Addr} {c : Nat} {l : List UInt8} (hr : Rd w A l.length l) (hnc : l.length ≤ c) (hA : A = none → c = 0) (hn : l.length ≤ 70368744177664) (n : Nat) (hk : n ≤ l.length) :
    Calls Try.prog 50 #[.slice A l.length c, .int .i64 n] w fun e w' => ∃ v1 v2, e = .returned (.tuple #[v1, v2, .bool true]) ∧ Sub w' A v1 (l.take n) ∧ Sub w' A v2 (l.drop n) ∧ Fr (fun _ => False) w w' := by
  obtain ⟨hs, hrt⟩ := slice_to (P := Try.prog) undU8 szU8 hr hnc n hk
  obtain ⟨A', hs', hrf, hA', hB⟩ := slice_from (P := Try.prog) undU8 szU8 hr hnc hA n hk
  have hd : decide ((n : Int) < 0) = false := by simp
  have hd2 : decide (l.length < n) = false := by rw [decide_eq_false_iff_not]; omega
  have H := Lib.hid (And.intro hrt (And.intro hrf (And.intro hA' (And.intro hB (And.intro hA (And.intro hnc (And.intro hn hk)))))))
  clear hr hnc hA hn hk hrt hrf hA' hB
  go_enter Try.func50, Try.ntmps50
  go_wp2
  go_quiet (fail)
  go_wp2
  go_ret3
  obtain ⟨hrt, hrf, hA', hB, hA, hnc, hn, hk⟩ := H.out
  have hf : Fr (fun _ => False) w (w.drewN nq) := (Fr.refl _ _).drewN nq
  have e1 : (l.take n).length = n := by rw [List.length_take]; omega
  have e2 : (l.drop n).length = l.length - n := List.length_drop
  refine ⟨.slice A n c, .slice A' (l.length - n) (c - n), rfl, ⟨A, c, by rw [e1], hA, by omega, by rw [e1]; exact hrt.new hf, fun ad e => ⟨ad, e, rfl⟩⟩, ⟨A', c - n, by rw [e2], hA', by omega, by rw [e2]; exact hrf.new hf, hB⟩, hf⟩

theorem cut_any {w : World} {A : Option Addr} {c : Nat} {l : List UInt8} (hr : Rd w A l.length l) (hnc : l.length ≤ c) (hA : A = none → c = 0) (hn : l.length ≤ 70368744177664) (s : Int) :
    Calls Try.prog 50 #[.slice A l.length c, .int .i64 s] w fun e w' => ∃ v1 v2, e = .returned (.tuple #[v1, v2, .bool (byOk l s)]) ∧ Sub w' A v1 (byGot l s) ∧ Sub w' A v2 (byRest l s) ∧ Fr (fun _ => False) w w' := by
  cases ht : byOk l s with
  | false =>
    have e1 : byGot l s = [] := by simp [byGot, ht]
    have e2 : byRest l s = [] := by simp [byRest, ht]
    rw [e1, e2]
    refine (cut_no hn s ht).mono ?_
    rintro e w' ⟨rfl, rfl⟩
    exact ⟨_, _, rfl, Sub.nil _ _, Sub.nil _ _, Fr.refl _ _⟩
  | true =>
    have e1 : byGot l s = l.take s.toNat := by simp [byGot, ht]
    have e2 : byRest l s = l.drop s.toNat := by simp [byRest, ht]
    rw [e1, e2]
    obtain ⟨h0, h1⟩ : 0 ≤ s ∧ s ≤ l.length := by simpa [byOk] using ht
    obtain ⟨k, rfl⟩ := Int.eq_ofNat_of_zero_le h0
    rw [Int.toNat_natCast]
    exact cut_ok hr hnc hA hn k (by omega)

theorem power_int (i : Int) (k : Nat) (h : i = k) (hk : k ≤ 7) (w : World) : Calls Try.prog 67 #[.int .i64 i] w fun e w' => e = .returned (.int .u64 ((256 ^ k : Nat) : Int)) ∧ w' = w := by
  subst h
  exact (power_any k hk w).mono fun _ _ ⟨h, e⟩ => ⟨h, e.symm⟩

/-- What the first bytes of a number of so many are worth. -/
def part (l : List UInt8) (j : Nat) : Nat := numOf (l.take j) * 256 ^ (l.length - j)
theorem part_next {l : List UInt8} {j : Nat} {x : UInt8} (h : l[j]? = some x) : part l (j + 1) = part l j + x.toNat * 256 ^ (l.length - 1 - j) := by
  have hj : j < l.length := by
    rcases Nat.lt_or_ge j l.length with h' | h'
    · exact h'
    · rw [List.getElem?_eq_none h'] at h; cases h
  have e : l.take (j + 1) = l.take j ++ [x] := by
    rw [List.take_succ_eq_append_getElem hj]
    rw [List.getElem?_eq_getElem hj] at h
    injection h with h
    rw [h]
  have e1 : numOf [x] = x.toNat := by simp [numOf]
  have e2 : l.length - j = (l.length - 1 - j) + 1 := by omega
  have e3 : l.length - (j + 1) = l.length - 1 - j := by omega
  unfold part
  rw [e, numOf_app, e1, e3, e2, Nat.pow_succ', Nat.add_mul, List.length_singleton, Nat.pow_one]
  simp only [Nat.mul_assoc]
theorem part_lt (l : List UInt8) (j : Nat) (hj : j ≤ l.length) : part l j < 256 ^ l.length := by
  unfold part
  have h := numOf_lt (l.take j)
  rw [List.length_take, Nat.min_eq_left hj] at h
  have e : 256 ^ l.length = 256 ^ j * 256 ^ (l.length - j) := by rw [← Nat.pow_add]; congr 1; omega
  rw [e]
  exact Nat.mul_lt_mul_of_pos_right h (Nat.pow_pos (by omega))

set_option maxHeartbeats 1000000 in
theorem tnum_ok {w : World} {A : Option Addr} {c : Nat} {l : List UInt8} (hr : Rd w A l.length l) (hnc : l.length ≤ c) (hA : A = none → c = 0) (hn : l.length ≤ 70368744177664) (s : Nat) (hm : maySz (s : Int) = true) (ht : s ≤ l.length) :
    Calls Try.prog 51 #[.slice A l.length c, .int .i64 s] w fun e w' => ∃ v2, e = .returned (.tuple #[.int .u64 (numOf (l.take s) : Nat), v2, .bool true]) ∧ Sub w' A v2 (l.drop s) ∧ Fr (fun _ => False) w w' := by
  have hs8 : 1 ≤ s ∧ s ≤ 8 := by
    have : (s : Int) = 1 ∨ (s : Int) = 2 ∨ (s : Int) = 4 ∨ (s : Int) = 8 := by simpa [maySz, or_assoc] using hm
    omega
  have HM := Lib.hid (rmay_yes s hm)
  have HC := Lib.hid (cut_ok hr hnc hA hn s ht)
  have hl : (l.take s).length = s := by rw [List.length_take]; omega
  generalize l.take s = x at *
  generalize l.drop s = y at *
  subst hl
  have hpl := part_lt x
  have hpw : 256 ^ x.length ≤ 18446744073709551616 := Nat.pow_le_pow_right (n := 256) (by omega) hs8.2
  have HP := Lib.hid (And.intro hpl hpw)
  clear hr hnc hA hn hm ht hpl hpw
  go_enter Try.func51, Try.ntmps51
  go_wp2_with fail
  (with_reducible refine (HM.out _).mono ?_)
  rintro e w1 ⟨rfl, rfl⟩
  go_wp2_with fail
  (with_reducible refine HC.out.mono ?_)
  rintro e w1 ⟨v1, v2, rfl, ⟨A1, c1, rfl, hA1, hc1, hr1, hB1⟩, hs2, hf⟩
  have HS := Lib.hid (And.intro hs2 hf)
  clear hs2 hf hB1 hA1
  go_wp2_with fail
  go_loopw [10, 11] (fun n i wr => ∃ (j : Nat), j ≤ x.length ∧ i = .int .i64 j ∧ n = .int .u64 (part x j : Nat) ∧ Fr (fun _ => False) w1 wr) (fun _ i _ => x.length - (intOf i).toNat)
  case atStart => exact ⟨0, by omega, rfl, by simp [part, numOf], Fr.refl _ _⟩
  case round =>
    obtain ⟨j, hj, rfl, rfl, hfr⟩ := hrel
    by_cases hlt : j < x.length
    · obtain ⟨ad, d, rfl, hd, hcell⟩ := (hr1.new hfr).at_ hlt
      have hnx := part_next hd
      have hb := HP.out.1 (j + 1) (by omega)
      have hw2 := HP.out.2
      have HN := Lib.hid (And.intro hnx (And.intro hb (And.intro hw2 hfr)))
      clear hnx hb hw2 hd hfr
      generalize hq : part x j = q at *
      go_wp2
      go_quiet ((go_at_call 67; exact Calls.quiet_of_same (power_int _ (x.length - 1 - j) (by omega) (by omega) _)))
      go_wp2
      obtain ⟨hnx, hb, hw2, hfr⟩ := HN.out
      have hd8 := d.toNat_lt
      have hp : (256 : Int) ^ (x.length - 1 - j) = ((256 ^ (x.length - 1 - j) : Nat) : Int) := by simp
      have e5 : IntKind.u64.wrap (d.toNat : Int) = (d.toNat : Int) := by rw [wrapU]; omega
      refine ⟨⟨j + 1, by omega, by go_num, congrArg (Value.int .u64) ?_, hfr.drewN _⟩, by simp [intOf]; omega⟩
      rw [hp]
      generalize 256 ^ (x.length - 1 - j) = Q at *
      have hm : ((d.toNat * Q : Nat) : Int) = (d.toNat : Int) * (Q : Int) := Int.natCast_mul _ _
      rw [hnx, e5, ← hm]
      generalize d.toNat * Q = Z at *
      rw [wrapU, wrapU]
      omega
    · obtain rfl : j = x.length := by omega
      have HF := Lib.hid hfr
      clear hlt hfr
      go_wp2
      go_ret3
      have e : part x x.length = numOf x := by simp [part]
      exact ⟨v2, by rw [e]; rfl, HS.out.1.new HF.out, HS.out.2.trans HF.out (fun _ _ => id)⟩

theorem tnum_any {w : World} {A : Option Addr} {c : Nat} {l : List UInt8} (hr : Rd w A l.length l) (hnc : l.length ≤ c) (hA : A = none → c = 0) (hn : l.length ≤ 70368744177664) (s : Int) :
    Calls Try.prog 51 #[.slice A l.length c, .int .i64 s] w fun e w' => ∃ v2, e = .returned (.tuple #[.int .u64 (tkNum l s : Nat), v2, .bool (tkOk l s)]) ∧ Sub w' A v2 (tkRest l s) ∧ Fr (fun _ => False) w w' := by
  cases ht : tkOk l s with
  | true =>
    have e1 : tkNum l s = numOf (l.take s.toNat) := by simp [tkNum, ht]
    have e2 : tkRest l s = l.drop s.toNat := by simp [tkRest, ht]
    rw [e1, e2]
    have hq : (s = 1 ∨ s = 2 ∨ s = 4 ∨ s = 8) ∧ s ≤ l.length := by simpa [tkOk, maySz, or_assoc] using ht
    have hm : maySz s = true := by simp [tkOk] at ht; exact ht.1
    obtain ⟨k, rfl⟩ := Int.eq_ofNat_of_zero_le (show 0 ≤ s by omega)
    rw [Int.toNat_natCast]
    exact tnum_ok hr hnc hA hn k hm (by omega)
  | false =>
    have e1 : tkNum l s = 0 := by simp [tkNum, ht]
    have e2 : tkRest l s = [] := by simp [tkRest, ht]
    rw [e1, e2]
    cases hm : maySz s with
    | false =>
      have HM := Lib.hid (rmay_no s hm)
      clear hr hnc hA hn hm ht e1 e2
      go_enter Try.func51, Try.ntmps51
      go_wp2_with fail
      (with_reducible refine (HM.out _).mono ?_)
      rintro e w1 ⟨rfl, rfl⟩
      go_wp2
      go_ret3
      exact ⟨_, rfl, Sub.nil _ _, Fr.refl _ _⟩
    | true =>
      have hl : (l.length : Int) < s := by simpa [tkOk, hm] using ht
      have HM := Lib.hid (rmay_yes s hm)
      have HC := Lib.hid (cut_no (w := w) (A := A) (c := c) hn s (by simp [byOk]; omega))
      clear hr hnc hA hn hm ht e1 e2 hl
      go_enter Try.func51, Try.ntmps51
      go_wp2_with fail
      (with_reducible refine (HM.out _).mono ?_)
      rintro e w1 ⟨rfl, rfl⟩
      go_wp2_with fail
      (with_reducible refine HC.out.mono ?_)
      rintro e w1 ⟨rfl, rfl⟩
      go_wp2
      go_ret3
      exact ⟨_, rfl, Sub.nil _ _, Fr.refl _ _⟩

/-- What is taken, of a kind and a size: a number, bytes, what is left, has it gone well? -/
def tOk (k s : Int) (l : List UInt8) : Bool := if k = 1 then tkOk l s else if k = 2 then tkOk l 8 else if k = 3 then flOk l else if k = 4 then byOk l s else if k = 5 ∨ k = 6 then blOk l else tkOk l 2
def tNum (k s : Int) (l : List UInt8) : Nat := if k = 1 then tkNum l s else if k = 2 then tkNum l 8 else if k = 3 then (if tkNum l 1 = 1 then 1 else 0) else if k = 4 then 0 else if k = 5 ∨ k = 6 then 0 else tkNum l 2
def tGot (k s : Int) (l : List UInt8) : List UInt8 := if k = 4 then byGot l s else if k = 5 ∨ k = 6 then blGot l else []
def tRest (k s : Int) (l : List UInt8) : List UInt8 := if k = 1 then tkRest l s else if k = 2 then tkRest l 8 else if k = 3 then flRest l else if k = 4 then byRest l s else if k = 5 ∨ k = 6 then blRest l else tkRest l 2

theorem results_tmp4 {fn : Func} {t u v x : Tmp} (h : fn.results = #[.tmp t, .tmp u, .tmp v, .tmp x]) (tmps : Array Value) (P : Program) (w : World) :
    (results fn tmps).run P w = .ok (.tuple #[tmps.getD t undef, tmps.getD u undef, tmps.getD v undef, tmps.getD x undef]) w := by
  simp [results, h]
def szOf (k s : Int) : Int := if k = 1 then s else if k = 2 then 8 else 2

set_option maxHeartbeats 2000000 in
set_option maxRecDepth 100000 in
theorem rtake_num {w : World} {A : Option Addr} {c : Nat} {l : List UInt8} (hr : Rd w A l.length l) (hnc : l.length ≤ c) (hA : A = none → c = 0) (hn : l.length ≤ 70368744177664) (k s : Int) (hk : k = 1 ∨ k = 2 ∨ k = 7) :
    Calls Try.prog 20 #[.slice A l.length c, .int .i64 k, .int .i64 s] w fun e w' => ∃ v1 v2, e = .returned (.tuple #[.int .u64 (tkNum l (szOf k s) : Nat), v1, v2, .bool (tkOk l (szOf k s))]) ∧ Sub w' A v1 [] ∧ Sub w' A v2 (tkRest l (szOf k s)) ∧ Fr (fun _ => False) w w' := by
  have hz : tkOk l (szOf k s) = false → tkNum l (szOf k s) = 0 ∧ tkRest l (szOf k s) = [] := by intro h; simp [tkNum, tkRest, h]
  have HC := Lib.hid (fun u (hu : Rd u A l.length l) => tnum_any hu hnc hA hn (szOf k s))
  have HR := Lib.hid hr
  clear hr hnc hA hn
  have hs : (k = 1 → szOf k s = s) ∧ (k = 2 → szOf k s = 8) ∧ (k = 7 → szOf k s = 2) := by
    refine ⟨?_, ?_, ?_⟩ <;> rintro rfl <;> rfl
  generalize tkNum l (szOf k s) = n at *
  generalize tkRest l (szOf k s) = y at *
  generalize tkOk l (szOf k s) = o at *
  generalize szOf k s = z at *
  rcases hk with rfl | rfl | rfl
  · obtain rfl := hs.1 rfl
    clear hs
    cases o with
    | false =>
      obtain ⟨rfl, rfl⟩ := hz rfl
      clear hz
      go_enter Try.func20, Try.ntmps20
      go_wp2_with fail
      (with_reducible refine (HC.out _ (HR.out.alloc _)).mono ?_)
      rintro e w1 ⟨v2, rfl, hs2, hf⟩
      have HS := Lib.hid (And.intro hs2 hf)
      clear hs2 hf
      go_wp2
      ((try simp only [Exit.inBlock, Exit.then]); refine bodyPost_ret (results_tmp4 rfl _ _ _) rfl ?_)
      exact ⟨_, _, rfl, Sub.nil _ _, Sub.nil _ _, new_then HS.out.2 (fun _ q => q.elim)⟩
    | true =>
      clear hz
      go_enter Try.func20, Try.ntmps20
      go_wp2_with fail
      (with_reducible refine (HC.out _ (HR.out.alloc _)).mono ?_)
      rintro e w1 ⟨v2, rfl, hs2, hf⟩
      have HS := Lib.hid (And.intro hs2 hf)
      clear hs2 hf
      go_wp2
      ((try simp only [Exit.inBlock, Exit.then]); refine bodyPost_ret (results_tmp4 rfl _ _ _) rfl ?_)
      exact ⟨_, _, rfl, Sub.nil _ _, HS.out.1, new_then HS.out.2 (fun _ q => q.elim)⟩
  · obtain rfl := hs.2.1 rfl
    clear hs
    cases o with
    | false =>
      obtain ⟨rfl, rfl⟩ := hz rfl
      clear hz
      go_enter Try.func20, Try.ntmps20
      go_wp2_with fail
      (with_reducible refine (HC.out _ (HR.out.alloc _)).mono ?_)
      rintro e w1 ⟨v2, rfl, hs2, hf⟩
      have HS := Lib.hid (And.intro hs2 hf)
      clear hs2 hf
      go_wp2
      ((try simp only [Exit.inBlock, Exit.then]); refine bodyPost_ret (results_tmp4 rfl _ _ _) rfl ?_)
      exact ⟨_, _, rfl, Sub.nil _ _, Sub.nil _ _, new_then HS.out.2 (fun _ q => q.elim)⟩
    | true =>
      clear hz
      go_enter Try.func20, Try.ntmps20
      go_wp2_with fail
      (with_reducible refine (HC.out _ (HR.out.alloc _)).mono ?_)
      rintro e w1 ⟨v2, rfl, hs2, hf⟩
      have HS := Lib.hid (And.intro hs2 hf)
      clear hs2 hf
      go_wp2
      ((try simp only [Exit.inBlock, Exit.then]); refine bodyPost_ret (results_tmp4 rfl _ _ _) rfl ?_)
      exact ⟨_, _, rfl, Sub.nil _ _, HS.out.1, new_then HS.out.2 (fun _ q => q.elim)⟩
  · obtain rfl := hs.2.2 rfl
    clear hs
    cases o with
    | false =>
      obtain ⟨rfl, rfl⟩ := hz rfl
      clear hz
      go_enter Try.func20, Try.ntmps20
      go_wp2_with fail
      (with_reducible refine (HC.out _ (HR.out.alloc _)).mono ?_)
      rintro e w1 ⟨v2, rfl, hs2, hf⟩
      have HS := Lib.hid (And.intro hs2 hf)
      clear hs2 hf
      go_wp2
      ((try simp only [Exit.inBlock, Exit.then]); refine bodyPost_ret (results_tmp4 rfl _ _ _) rfl ?_)
      exact ⟨_, _, rfl, Sub.nil _ _, Sub.nil _ _, new_then HS.out.2 (fun _ q => q.elim)⟩
    | true =>
      clear hz
      go_enter Try.func20, Try.ntmps20
      go_wp2_with fail
      (with_reducible refine (HC.out _ (HR.out.alloc _)).mono ?_)
      rintro e w1 ⟨v2, rfl, hs2, hf⟩
      have HS := Lib.hid (And.intro hs2 hf)
      clear hs2 hf
      go_wp2
      ((try simp only [Exit.inBlock, Exit.then]); refine bodyPost_ret (results_tmp4 rfl _ _ _) rfl ?_)
      exact ⟨_, _, rfl, Sub.nil _ _, HS.out.1, new_then HS.out.2 (fun _ q => q.elim)⟩

set_option maxHeartbeats 2000000 in
set_option maxRecDepth 100000 in
theorem rtake_flag {w : World} {A : Option Addr} {c : Nat} {l : List UInt8} (hr : Rd w A l.length l) (hnc : l.length ≤ c) (hA : A = none → c = 0) (hn : l.length ≤ 70368744177664) (s : Int) :
    Calls Try.prog 20 #[.slice A l.length c, .int .i64 3, .int .i64 s] w fun e w' => ∃ v1 v2, e = .returned (.tuple #[.int .u64 ((if tkNum l 1 = 1 then 1 else 0 : Nat) : Int), v1, v2, .bool (flOk l)]) ∧ Sub w' A v1 [] ∧ Sub w' A v2 (flRest l) ∧ Fr (fun _ => False) w w' := by
  have hz : tkOk l 1 = false → tkNum l 1 = 0 ∧ flRest l = [] ∧ flOk l = false := by intro h; simp [tkNum, flRest, flOk, h]
  have ho : tkOk l 1 = true → tkNum l 1 ≤ 1 → flRest l = tkRest l 1 ∧ flOk l = true := by intro h h'; simp [tkRest, flRest, flOk, h, h']
  have hx : 1 < tkNum l 1 → flRest l = [] ∧ flOk l = false := by
    intro h
    have e : flOk l = false := by simp [flOk]; omega
    simp [flRest, e]
  have HC := Lib.hid (fun u (hu : Rd u A l.length l) => tnum_any hu hnc hA hn 1)
  have HR := Lib.hid hr
  clear hr hnc hA hn
  generalize tkNum l 1 = n at *
  generalize tkRest l 1 = y at *
  generalize tkOk l 1 = o at *
  generalize flRest l = y' at *
  generalize flOk l = o' at *
  cases o with
  | false =>
    obtain ⟨rfl, rfl, rfl⟩ := hz rfl
    clear hz ho hx
    go_enter Try.func20, Try.ntmps20
    go_wp2_with fail
    (with_reducible refine (HC.out _ (HR.out.alloc _)).mono ?_)
    rintro e w1 ⟨v2, rfl, hs2, hf⟩
    have HS := Lib.hid (And.intro hs2 hf)
    clear hs2 hf
    go_wp2
    ((try simp only [Exit.inBlock, Exit.then]); refine bodyPost_ret (results_tmp4 rfl _ _ _) rfl ?_)
    exact ⟨_, _, rfl, Sub.nil _ _, Sub.nil _ _, new_then HS.out.2 (fun _ q => q.elim)⟩
  | true =>
    by_cases h1 : 1 < n
    · obtain ⟨rfl, rfl⟩ := hx h1
      have hd : decide (1 < n) = true := by rw [decide_eq_true_eq]; omega
      have hd' : decide (1 < (n : Int)) = true := by rw [decide_eq_true_eq]; omega
      have hne : (if n = 1 then 1 else 0 : Nat) = 0 := by rw [if_neg (by omega)]
      rw [hne]
      clear hz ho hx h1 hne
      go_enter Try.func20, Try.ntmps20
      go_wp2_with fail
      (with_reducible refine (HC.out _ (HR.out.alloc _)).mono ?_)
      rintro e w1 ⟨v2, rfl, hs2, hf⟩
      have HS := Lib.hid (And.intro hs2 hf)
      clear hs2 hf
      go_wp2
      ((try simp only [Exit.inBlock, Exit.then]); refine bodyPost_ret (results_tmp4 rfl _ _ _) rfl ?_)
      exact ⟨_, _, rfl, Sub.nil _ _, Sub.nil _ _, new_then HS.out.2 (fun _ q => q.elim)⟩
    · obtain ⟨rfl, rfl⟩ := ho rfl (by omega)
      have hd : decide (1 < n) = false := by rw [decide_eq_false_iff_not]; omega
      have hd' : decide (1 < (n : Int)) = false := by rw [decide_eq_false_iff_not]; omega
      have hne : (if n = 1 then 1 else 0 : Nat) = n := by split <;> omega
      rw [hne]
      clear hz ho hx h1 hne
      go_enter Try.func20, Try.ntmps20
      go_wp2_with fail
      (with_reducible refine (HC.out _ (HR.out.alloc _)).mono ?_)
      rintro e w1 ⟨v2, rfl, hs2, hf⟩
      have HS := Lib.hid (And.intro hs2 hf)
      clear hs2 hf
      go_wp2
      ((try simp only [Exit.inBlock, Exit.then]); refine bodyPost_ret (results_tmp4 rfl _ _ _) rfl ?_)
      exact ⟨_, _, rfl, Sub.nil _ _, HS.out.1, new_then HS.out.2 (fun _ q => q.elim)⟩

set_option maxHeartbeats 2000000 in
set_option maxRecDepth 100000 in
theorem rtake_bytes {w : World} {A : Option Addr} {c : Nat} {l : List UInt8} (hr : Rd w A l.length l) (hnc : l.length ≤ c) (hA : A = none → c = 0) (hn : l.length ≤ 70368744177664) (s : Int) :
    Calls Try.prog 20 #[.slice A l.length c, .int .i64 4, .int .i64 s] w fun e w' => ∃ v1 v2, e = .returned (.tuple #[.int .u64 0, v1, v2, .bool (byOk l s)]) ∧ Sub w' A v1 (byGot l s) ∧ Sub w' A v2 (byRest l s) ∧ Fr (fun _ => False) w w' := by
  have HC := Lib.hid (fun u (hu : Rd u A l.length l) => cut_any hu hnc hA hn s)
  have HR := Lib.hid hr
  clear hr hnc hA hn
  go_enter Try.func20, Try.ntmps20
  go_wp2_with fail
  (with_reducible refine (HC.out _ (HR.out.alloc _)).mono ?_)
  rintro e w1 ⟨v1, v2, rfl, hs1, hs2, hf⟩
  have HS := Lib.hid (And.intro hs1 (And.intro hs2 hf))
  clear hs1 hs2 hf
  go_wp2
  ((try simp only [Exit.inBlock, Exit.then]); refine bodyPost_ret (results_tmp4 rfl _ _ _) rfl ?_)
  exact ⟨_, _, rfl, HS.out.1, HS.out.2.1, new_then HS.out.2.2 (fun _ q => q.elim)⟩

set_option maxHeartbeats 2000000 in
set_option maxRecDepth 100000 in
theorem rtake_blob {w : World} {A : Option Addr} {c : Nat} {l : List UInt8} (hr : Rd w A l.length l) (hnc : l.length ≤ c) (hA : A = none → c = 0) (hn : l.length ≤ 70368744177664) (s k : Int) (hk : k = 5 ∨ k = 6) :
    Calls Try.prog 20 #[.slice A l.length c, .int .i64 k, .int .i64 s] w fun e w' => ∃ v1 v2, e = .returned (.tuple #[.int .u64 0, v1, v2, .bool (blOk l)]) ∧ Sub w' A v1 (blGot l) ∧ Sub w' A v2 (blRest l) ∧ Fr (fun _ => False) w w' := by
  have hz : tkOk l 4 = false → tkNum l 4 = 0 ∧ blGot l = [] ∧ blRest l = [] ∧ blOk l = false := by intro h; simp [tkNum, blGot, blRest, blOk, h]
  have ho : tkOk l 4 = true → tkNum l 4 ≤ 16777216 → byGot (tkRest l 4) (tkNum l 4 : Nat) = blGot l ∧ byRest (tkRest l 4) (tkNum l 4 : Nat) = blRest l ∧ byOk (tkRest l 4) (tkNum l 4 : Nat) = blOk l := by
    intro h h'
    obtain ⟨e1, e2, e3⟩ := blob_eqs l h' false
    refine ⟨e1, e2, ?_⟩
    simpa [h] using e3
  have hx : 16777216 < tkNum l 4 → blGot l = [] ∧ blRest l = [] ∧ blOk l = false := by
    intro h
    have e : blOk l = false := by simp [blOk]; omega
    simp [blGot, blRest, e]
  have hyl : (tkRest l 4).length ≤ 70368744177664 := by unfold tkRest; split <;> simp <;> omega
  have hlt := tkNum_4 l
  have HC := Lib.hid (fun u (hu : Rd u A l.length l) => tnum_any hu hnc hA hn 4)
  have HR := Lib.hid hr
  clear hr hnc hA hn
  generalize tkNum l 4 = n at *
  generalize tkRest l 4 = y at *
  generalize tkOk l 4 = o at *
  generalize blGot l = y1 at *
  generalize blRest l = y2 at *
  generalize blOk l = o' at *
  cases o with
  | false =>
    obtain ⟨rfl, rfl, rfl, rfl⟩ := hz rfl
    clear hz ho hx hyl hlt
    rcases hk with rfl | rfl
    all_goals
      go_enter Try.func20, Try.ntmps20
      go_wp2_with fail
      (with_reducible refine (HC.out _ (HR.out.alloc _)).mono ?_)
      rintro e w1 ⟨v2, rfl, hs2, hf⟩
      have HS := Lib.hid (And.intro hs2 hf)
      clear hs2 hf
      go_wp2
      ((try simp only [Exit.inBlock, Exit.then]); refine bodyPost_ret (results_tmp4 rfl _ _ _) rfl ?_)
      exact ⟨_, _, rfl, Sub.nil _ _, Sub.nil _ _, new_then HS.out.2 (fun _ q => q.elim)⟩
  | true =>
    by_cases h1 : 16777216 < n
    · obtain ⟨rfl, rfl, rfl⟩ := hx h1
      have hd : decide (16777216 < n) = true := by rw [decide_eq_true_eq]; omega
      have hd' : decide (16777216 < (n : Int)) = true := by rw [decide_eq_true_eq]; omega
      clear hz ho hx h1 hyl hlt
      rcases hk with rfl | rfl
      all_goals
        go_enter Try.func20, Try.ntmps20
        go_wp2_with fail
        (with_reducible refine (HC.out _ (HR.out.alloc _)).mono ?_)
        rintro e w1 ⟨v2, rfl, hs2, hf⟩
        have HS := Lib.hid (And.intro hs2 hf)
        clear hs2 hf
        go_wp2
        ((try simp only [Exit.inBlock, Exit.then]); refine bodyPost_ret (results_tmp4 rfl _ _ _) rfl ?_)
        exact ⟨_, _, rfl, Sub.nil _ _, Sub.nil _ _, new_then HS.out.2 (fun _ q => q.elim)⟩
    · obtain ⟨rfl, rfl, rfl⟩ := ho rfl (by omega)
      have hd : decide (16777216 < n) = false := by rw [decide_eq_false_iff_not]; omega
      have hd' : decide (16777216 < (n : Int)) = false := by rw [decide_eq_false_iff_not]; omega
      have HYL := Lib.hid hyl
      have HCut := Lib.hid (fun u A' c' (hu : Rd u A' y.length y) hnc hA => cut_any (w := u) (A := A') (c := c') hu hnc hA hyl (n : Nat))
      have hln : n < 4294967296 := hlt
      generalize byGot y (n : Nat) = y1 at *
      generalize byRest y (n : Nat) = y2 at *
      generalize byOk y (n : Nat) = o' at *
      clear hz ho hx hyl hlt
      rcases hk with rfl | rfl
      all_goals
        go_enter Try.func20, Try.ntmps20
        go_wp2_with fail
        (with_reducible refine (HC.out _ (HR.out.alloc _)).mono ?_)
        rintro e w1 ⟨v2, rfl, hs2, hf⟩
        obtain ⟨A2, c2, rfl, hA2, hc2, hr2, hB2⟩ := hs2
        have HS := Lib.hid (And.intro hf (And.intro hA2 (And.intro hc2 (And.intro hr2 hB2))))
        clear hf hA2 hc2 hr2 hB2
        go_wp2_with fail
        (with_reducible refine (HCut.out _ _ _ HS.out.2.2.2.1 HS.out.2.2.1 HS.out.2.1).mono ?_)
        rintro e w2 ⟨v3, v4, rfl, hs3, hs4, hf2⟩
        have HS2 := Lib.hid (And.intro hs3 (And.intro hs4 hf2))
        clear hs3 hs4 hf2
        go_wp2
        ((try simp only [Exit.inBlock, Exit.then]); refine bodyPost_ret (results_tmp4 rfl _ _ _) rfl ?_)
        exact ⟨_, _, rfl, HS2.out.1.sub HS.out.2.2.2.2, HS2.out.2.1.sub HS.out.2.2.2.2, new_then (HS.out.1.trans HS2.out.2.2 (fun _ _ => id)) (fun _ q => q.elim)⟩

theorem rtake_any {w : World} {A : Option Addr} {c : Nat} {l : List UInt8} (hr : Rd w A l.length l) (hnc : l.length ≤ c) (hA : A = none → c = 0) (hn : l.length ≤ 70368744177664) (k : Int) (hk : 1 ≤ k ∧ k ≤ 7) (s : Int) :
    Calls Try.prog 20 #[.slice A l.length c, .int .i64 k, .int .i64 s] w fun e w' => ∃ v1 v2, e = .returned (.tuple #[.int .u64 (tNum k s l : Nat), v1, v2, .bool (tOk k s l)]) ∧ Sub w' A v1 (tGot k s l) ∧ Sub w' A v2 (tRest k s l) ∧ Fr (fun _ => False) w w' := by
  have hq : k = 1 ∨ k = 2 ∨ k = 3 ∨ k = 4 ∨ k = 5 ∨ k = 6 ∨ k = 7 := by omega
  rcases hq with rfl | rfl | rfl | rfl | rfl | rfl | rfl
  · exact rtake_num hr hnc hA hn 1 s (.inl rfl)
  · exact rtake_num hr hnc hA hn 2 s (.inr (.inl rfl))
  · exact rtake_flag hr hnc hA hn s
  · exact rtake_bytes hr hnc hA hn s
  · exact rtake_blob hr hnc hA hn s 5 (.inl rfl)
  · exact rtake_blob hr hnc hA hn s 6 (.inr rfl)
  · exact rtake_num hr hnc hA hn 7 s (.inr (.inr rfl))
end Go.Proofs.Ythmjfbefekicdaa
