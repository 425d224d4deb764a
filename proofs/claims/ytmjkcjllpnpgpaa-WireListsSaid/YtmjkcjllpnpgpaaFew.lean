/- A list of puts that came in; the laws' few. -/
import Derived.Test.YtmjkcjllpnpgpaaLput
namespace Go.Proofs.Ytmjkcjllpnpgpaa
open Go.RowKit

/-- A put, as it lies in memory. -/
structure PutD where
  kd : Int
  n : Nat
  s : Int
  A : Option Addr
  m : Nat
  c : Nat
  l : List UInt8

/-- A put that may have come in. -/
structure PutOk (w : World) (B : Nat) (x : PutD) : Prop where
  n : x.n ≤ 18446744073709551615
  s0 : -9223372036854775808 ≤ x.s
  s1 : x.s ≤ 9223372036854775807
  rd : Rd w x.A x.m x.l
  nil : x.A = none → x.c = 0
  mc : x.m ≤ x.c
  cm : x.c ≤ maxLen
  lt : 0 < x.m → ∀ ad, x.A = some ad → ad.block < B

/-- From the place off of block b on stand the puts xs. -/
def PutsAt (w : World) (B b off : Nat) (xs : List PutD) : Prop :=
  ∀ i x, xs[i]? = some x → PutOk w B x ∧ w.cell? ⟨b, off + i * 4, none⟩ = some (.int .i64 x.kd) ∧ w.cell? ⟨b, off + i * 4 + 1, none⟩ = some (.int .u64 x.n) ∧
    w.cell? ⟨b, off + i * 4 + 2, none⟩ = some (.int .i64 x.s) ∧ w.cell? ⟨b, off + i * 4 + 3, none⟩ = some (.slice x.A x.m x.c)

/-- Are they few, of short ones? -/
def fewB (xs : List PutD) (most : Nat) : Bool := xs.all (fun x => decide (x.m ≤ 3000)) && decide (xs.length ≤ most)

theorem few_nil (A : Option Addr) (cap : Nat) (w : World) : Calls Try.prog 9 #[.slice A 0 cap, .int .i64 60] w fun e w' => e = .returned (.bool true) ∧ w = w' := by
  go_enter Try.func9, Try.ntmps9
  go_wp2_with fail
  go_loop [5] (fun i => i = .int .i64 0) (fun _ => 0)
  case atStart => rfl
  case round =>
    subst hrel
    go_wp2_with fail
    go_ret
    exact ⟨rfl, rfl⟩

theorem few_some {w : World} {B b off : Nat} {xs : List PutD} {cap : Nat} (h : PutsAt w B b off xs) (hl : xs.length ≤ maxLen) :
    Calls Try.prog 9 #[.slice (some ⟨b, off, none⟩) xs.length cap, .int .i64 60] w fun e w' => e = .returned (.bool (fewB xs 60)) ∧ w = w' := by
  unfold maxLen at hl
  obtain ⟨r, hb⟩ : ∃ r, r = fewB xs 60 := ⟨_, rfl⟩
  rw [← hb]
  have HB := Lib.hid hb
  have H := Lib.hid h
  clear hb h
  go_enter Try.func9, Try.ntmps9
  go_wp2_with fail
  go_loop [5] (fun i => ∃ k : Nat, k ≤ xs.length ∧ i = .int .i64 k ∧ Hid ((xs.take k).all (fun x => decide (x.m ≤ 3000)) = true)) (fun i => xs.length - (intOf i).toNat)
  case atStart => exact ⟨0, by omega, rfl, rfl⟩
  case round =>
    obtain ⟨k, hk, rfl, hall⟩ := hrel
    by_cases hlt : k < xs.length
    · obtain ⟨hok, h0, h1, h2, h3⟩ := H.out k xs[k] (List.getElem?_eq_getElem hlt)
      have hts : xs.take (k + 1) = xs.take k ++ [xs[k]] := List.take_succ_eq_append_getElem hlt
      have HT := Lib.hid hts
      have hmem : xs[k] ∈ xs := List.getElem_mem hlt
      have hm := Nat.le_trans hok.mc hok.cm
      unfold maxLen at hm
      generalize xs[k] = x at *
      clear hok h0 h1 h2 hts
      by_cases hq : x.m ≤ 3000
      · have hd : decide (3000 < (x.m : Int)) = false := by rw [decide_eq_false_iff_not]; omega
        go_wp2_with fail
        refine ⟨⟨k + 1, by omega, by go_num, Lib.hid ?_⟩, by simp [intOf]; omega⟩
        rw [HT.out, List.all_append, hall.out]
        simp [hq]
      · have hd : decide (3000 < (x.m : Int)) = true := by rw [decide_eq_true_eq]; omega
        obtain rfl : r = false := by
          rw [HB.out]
          unfold fewB
          have : xs.all (fun x => decide (x.m ≤ 3000)) = false := by
            rw [List.all_eq_false]
            exact ⟨x, hmem, by simpa using hq⟩
          rw [this]
          rfl
        clear hq hmem
        go_wp2_with fail
        go_ret
        exact ⟨rfl, rfl⟩
    · obtain rfl : k = xs.length := by omega
      have hr : r = decide (xs.length ≤ 60) := by
        rw [HB.out]
        unfold fewB
        rw [List.take_length] at hall
        rw [hall.out]
        rfl
      clear hlt hall HB
      by_cases h60 : xs.length ≤ 60
      · have hd : decide ((xs.length : Int) ≤ 60) = true := by rw [decide_eq_true_eq]; omega
        obtain rfl : r = true := by rw [hr]; simpa using h60
        clear hr h60
        go_wp2_with fail
        go_ret
        exact ⟨rfl, rfl⟩
      · have hd : decide ((xs.length : Int) ≤ 60) = false := by rw [decide_eq_false_iff_not]; omega
        obtain rfl : r = false := by rw [hr]; simpa using h60
        clear hr h60
        go_wp2_with fail
        go_ret
        exact ⟨rfl, rfl⟩
end Go.Proofs.Ytmjkcjllpnpgpaa
