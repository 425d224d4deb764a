/- couponref01: Blob, Put. -/
import Derived.Test.YtmjkcjllpnpgpaaRef
namespace Go.Proofs.Ytmjkcjllpnpgpaa
open Go.RowKit

/-- A slice that reads as l. -/
def Sl (w : World) (v : Value) (l : List UInt8) : Prop := ∃ A c, v = .slice A l.length c ∧ (A = none → c = 0) ∧ l.length ≤ c ∧ Rd w A l.length l
theorem Sl.of_own {w : World} {base e : Nat} {v : Value} {l : List UInt8} (h : w.ownsRow base e 1 v l.length (cellsB l)) : Sl w v l := by
  obtain ⟨A, c, rfl, hA, hc, _, hr⟩ := own_rd h
  exact ⟨A, c, rfl, hA, hc, hr⟩
theorem Sl.nil (w : World) : Sl w (.slice none 0 0) [] := ⟨none, 0, rfl, fun _ => rfl, Nat.le_refl _, Rd.nil _ _⟩
theorem Rd.new {w w' : World} {A : Option Addr} {n : Nat} {l : List UInt8} (h : Rd w A n l) (f : Fr (fun _ => False) w w') : Rd w' A n l := h.keep f (fun _ _ => id)
theorem Sl.new {w w' : World} {v : Value} {l : List UInt8} (h : Sl w v l) (f : Fr (fun _ => False) w w') : Sl w' v l := by
  obtain ⟨A, c, hv, hA, hc, hr⟩ := h
  exact ⟨A, c, hv, hA, hc, hr.new f⟩

set_option maxHeartbeats 1000000 in
set_option maxRecDepth 100000 in
theorem rblobref {w : World} {A : Option Addr} {n c : Nat} {l : List UInt8} (hr : Rd w A n l) (hn : n ≤ 3000) :
    Calls Try.prog 44 #[.slice A n c] w fun e w' => ∃ v, e = .returned (.tuple #[v, .bool true]) ∧ Makes w (be n 4 ++ l) v w' := by
  obtain ⟨i0, hi, hz0, hz1, hz2⟩ := info_parts infoU8
  have HN := Lib.hid (rnum4 n (by omega) (by omega) w)
  have HR := Lib.hid hr
  clear hr
  go_enter Try.func44, Try.ntmps44
  go_wp2_with fail
  (with_reducible refine HN.out.mono ?_)
  rintro e w1 ⟨v, rfl, hm⟩
  have hs := hm.2.size
  have HM := Lib.hid hm
  clear hm
  go_wp2_with (at_builtin; refine wpList_append_bytes _ rfl _ _ 26 rfl w.heap.size 5 i0 (.int .u8 0) Try.underlying26 hi hz0 hz1 hz2 rfl v (be n 4) l rfl HM.out.1 A n c rfl (HR.out.new HM.out.2) (by rw [be_len]; omega) hs ?_; intro v' w' hown hgrow hat)
  go_ret2
  exact ⟨v', rfl, hown, HM.out.2.grown hgrow (fun k hk => .inr (HM.out.1.lt k hk).1)⟩

/-- What Put puts (none: it fails). -/
def rput (k : Int) (n : Nat) (s : Int) (l : List UInt8) : Option (List UInt8) :=
  if k = 1 then (if numOk n s then some (be n s.toNat) else none)
  else if k = 2 then some (be n 8)
  else if k = 3 then some (be (n % 2) 1)
  else if k = 4 then some l
  else if k = 5 ∨ k = 6 then some (be l.length 4 ++ l)
  else if 0 ≤ s ∧ numOk s.toNat 2 = true then some (be s.toNat 2) else none

/-- Put's answer. -/
def PutR (w : World) (o : Option (List UInt8)) (e : Ending) (w' : World) : Prop := ∃ v, e = .returned (.tuple #[v, .bool o.isSome]) ∧ Sl w' v (o.getD []) ∧ Fr (fun _ => False) w w'

set_option maxHeartbeats 2000000 in
theorem rput_any {w : World} {A : Option Addr} {m c : Nat} {l : List UInt8} (hr : Rd w A m l) (hA : A = none → c = 0) (hc : m ≤ c) (hm : m ≤ 3000) (k : Int) (hk : 1 ≤ k ∧ k ≤ 7) (n : Nat) (hn : n ≤ 18446744073709551615) (s : Int) (hs : s ≤ 9223372036854775807) :
    Calls Try.prog 11 #[.int .i64 k, .int .u64 n, .int .i64 s, .slice A m c] w (PutR w (rput k n s l)) := by
  obtain rfl := hr.len
  have hq : k = 1 ∨ k = 2 ∨ k = 3 ∨ k = 4 ∨ k = 5 ∨ k = 6 ∨ k = 7 := by omega
  clear hk
  obtain ⟨o, ho⟩ : ∃ o, o = rput k n s l := ⟨_, rfl⟩
  rw [← ho]
  have HO := Lib.hid ho
  have HN := Lib.hid hn
  have HS := Lib.hid hs
  have HR := Lib.hid hr
  have HA := Lib.hid (And.intro hA hc)
  clear ho hn hs hr hA hc
  rcases hq with rfl | rfl | rfl | rfl | rfl | rfl | rfl
  · cases h : numOk n s with
    | true =>
      obtain rfl : o = some (be n s.toNat) := by rw [HO.out]; simp [rput, h]
      have HC := Lib.hid (rnum_any n HN.out s h w)
      clear h HO
      go_enter Try.func11, Try.ntmps11
      go_wp2_with fail
      (with_reducible refine HC.out.mono ?_)
      rintro e w1 ⟨v, rfl, hm1⟩
      have H := Lib.hid hm1
      clear hm1
      go_wp2_with fail
      go_ret2
      exact ⟨v, rfl, Sl.of_own H.out.1, H.out.2⟩
    | false =>
      obtain rfl : o = none := by rw [HO.out]; simp [rput, h]
      have HC := Lib.hid (rnum_no n HN.out s h w)
      clear h HO
      go_enter Try.func11, Try.ntmps11
      go_wp2_with fail
      (with_reducible refine HC.out.mono ?_)
      rintro e w1 ⟨rfl, rfl⟩
      go_wp2_with fail
      go_ret2
      exact ⟨_, rfl, Sl.nil _, Fr.refl _ _⟩
  · obtain rfl : o = some (be n 8) := by rw [HO.out]; simp [rput]
    have HC := Lib.hid (rnum8 n HN.out w)
    clear HO
    go_enter Try.func11, Try.ntmps11
    go_wp2_with fail
    (with_reducible refine HC.out.mono ?_)
    rintro e w1 ⟨v, rfl, hm1⟩
    have H := Lib.hid hm1
    clear hm1
    go_wp2_with fail
    go_ret2
    exact ⟨v, rfl, Sl.of_own H.out.1, H.out.2⟩
  · obtain rfl : o = some (be (n % 2) 1) := by rw [HO.out]; simp [rput]
    have HC : Hid (Calls Try.prog 43 #[.int .u64 ((n : Int) % 2), .int .i64 1] w fun e w' => ∃ v, e = .returned (.tuple #[v, .bool true]) ∧ Makes w (be (n % 2) 1) v w') := Lib.hid (rnum1 (n % 2) (by omega) (by omega) w)
    clear HO
    go_enter Try.func11, Try.ntmps11
    go_wp2_with fail
    refine HC.out.mono ?_
    rintro e w1 ⟨v, rfl, hm1⟩
    have H := Lib.hid hm1
    clear hm1
    go_wp2_with fail
    go_ret2
    exact ⟨v, rfl, Sl.of_own H.out.1, H.out.2⟩
  · obtain rfl : o = some l := by rw [HO.out]; simp [rput]
    clear HO
    go_enter Try.func11, Try.ntmps11
    go_wp2_with fail
    go_ret2
    exact ⟨_, rfl, ⟨A, c, rfl, HA.out.1, HA.out.2, HR.out⟩, Fr.refl _ _⟩
  · obtain rfl : o = some (be l.length 4 ++ l) := by rw [HO.out]; simp [rput]
    have HC := Lib.hid (rblobref (c := c) HR.out hm)
    clear HO
    generalize be l.length 4 ++ l = z at *
    go_enter Try.func11, Try.ntmps11
    go_wp2_with fail
    (with_reducible refine HC.out.mono ?_)
    rintro e w1 ⟨v, rfl, hm1⟩
    have H := Lib.hid hm1
    clear hm1
    go_wp2_with fail
    go_ret2
    exact ⟨v, rfl, Sl.of_own H.out.1, H.out.2⟩
  · obtain rfl : o = some (be l.length 4 ++ l) := by rw [HO.out]; simp [rput]
    have HC := Lib.hid (rblobref (c := c) HR.out hm)
    clear HO
    generalize be l.length 4 ++ l = z at *
    go_enter Try.func11, Try.ntmps11
    go_wp2_with fail
    (with_reducible refine HC.out.mono ?_)
    rintro e w1 ⟨v, rfl, hm1⟩
    have H := Lib.hid hm1
    clear hm1
    go_wp2_with fail
    go_ret2
    exact ⟨v, rfl, Sl.of_own H.out.1, H.out.2⟩
  · by_cases h0 : s < 0
    · obtain rfl : o = none := by rw [HO.out]; have hns : ¬ 0 ≤ s := (by omega); simp [rput, hns]
      have hd : decide (s < 0) = true := by rw [decide_eq_true_eq]; exact h0
      clear HO h0
      go_enter Try.func11, Try.ntmps11
      go_wp2_with fail
      go_ret2
      exact ⟨_, rfl, Sl.nil _, Fr.refl _ _⟩
    · obtain ⟨j, rfl⟩ := Int.eq_ofNat_of_zero_le (show 0 ≤ s by omega)
      have hw : IntKind.u64.wrap (j : Int) = (j : Int) := by rw [wrapU]; have := HS.out; omega
      cases h : numOk j 2 with
      | true =>
        obtain rfl : o = some (be j 2) := by rw [HO.out]; simp [rput, h]
        have HC := Lib.hid (rnum_any j (by have := HS.out; omega) 2 h w)
        clear h HO h0
        go_enter Try.func11, Try.ntmps11
        go_wp2_with fail
        (with_reducible refine HC.out.mono ?_)
        rintro e w1 ⟨v, rfl, hm1⟩
        have H := Lib.hid hm1
        clear hm1
        go_wp2_with fail
        go_ret2
        exact ⟨v, rfl, Sl.of_own H.out.1, H.out.2⟩
      | false =>
        obtain rfl : o = none := by rw [HO.out]; simp [rput, h]
        have HC := Lib.hid (rnum_no j (by have := HS.out; omega) 2 h w)
        clear h HO h0
        go_enter Try.func11, Try.ntmps11
        go_wp2_with fail
        (with_reducible refine HC.out.mono ?_)
        rintro e w1 ⟨rfl, rfl⟩
        go_wp2_with fail
        go_ret2
        exact ⟨_, rfl, Sl.nil _, Fr.refl _ _⟩
end Go.Proofs.Ytmjkcjllpnpgpaa
