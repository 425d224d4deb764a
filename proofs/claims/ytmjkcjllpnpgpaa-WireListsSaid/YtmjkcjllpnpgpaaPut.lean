/- What each method of a writer does, whether it failed ahead or not. -/
import Derived.Test.YtmjkcjllpnpgpaaNum
namespace Go.Proofs.Ytmjkcjllpnpgpaa
open Go.RowKit

/-- A writer that has put what o says (none: it failed). -/
def WrS (w : World) (B g : Nat) (v : Value) (o : Option (List UInt8)) : Prop := Wr w B g v (o.getD []) o.isNone

theorem WrS.keep {F : Nat → Prop} {w w' : World} {B g : Nat} {v : Value} {o : Option (List UInt8)} (h : WrS w B g v o) (hf : Fr F w w') (hF : ∀ k, WrF g v k → ¬ F k) : WrS w' B g v o :=
  Wr.keep h hf hF

/-- What a writer's method gives: the writer itself, that has put o. -/
def Puts (w : World) (B g : Nat) (v : Value) (o : Option (List UInt8)) (e : Ending) (w' : World) : Prop :=
  e = .returned (.pointer (some ⟨g, 0, none⟩)) ∧ ∃ v', WrS w' B g v' o ∧ Fr (WrF g v) w w' ∧ (∀ k, v'.ownBlock = some k → v.ownBlock = some k ∨ w.heap.size ≤ k)

/-- Has a number room in a size? -/
def numOk (n : Nat) (s : Int) : Bool := decide ((s = 1 ∧ n < 256) ∨ (s = 2 ∧ n < 65536) ∨ (s = 4 ∧ n < 4294967296) ∨ s = 8)
def putNum (o : Option (List UInt8)) (n : Nat) (s : Int) : Option (List UInt8) := o.bind fun l => if numOk n s then some (l ++ be n s.toNat) else none

/-- There is room for so many bytes more. -/
def roomS (o : Option (List UInt8)) (n : Nat) : Prop := (o.getD []).length + n ≤ 140737488355328

theorem fail_puts {w : World} {B g : Nat} {v : Value} {o : Option (List UInt8)} (h : WrS w B g v o) :
    Calls Try.prog 52 #[.pointer (some ⟨g, 0, none⟩)] w (Puts w B g v none) :=
  (fail_any h).mono fun _ _ ⟨he, hw, hf⟩ => ⟨he, _, hw, hf.mono (fun _ _ e => .inl e), fun _ hk => by cases hk⟩

theorem bytes_puts {w : World} {B g : Nat} {v : Value} {o : Option (List UInt8)} (h : WrS w B g v o) {A : Option Addr} {n c : Nat} {l : List UInt8} (hr : Rd w A n l) (hb : roomS o n) :
    Calls Try.prog 45 #[.pointer (some ⟨g, 0, none⟩), .slice A n c] w (Puts w B g v (o.map (· ++ l))) := by
  cases o with
  | none => exact (bytes_failed h A n c).mono fun _ _ ⟨he, hw⟩ => ⟨he, v, hw ▸ h, hw ▸ Fr.refl _ _, fun _ hk => .inl hk⟩
  | some xs =>
    refine (bytes_any h hr hb).mono fun _ _ ⟨he, v', h1, h2, h3⟩ => ⟨he, v', h1, h2, fun k hk => ?_⟩
    rcases h3 with e | e
    · exact .inl (e ▸ hk)
    · rw [hk] at e
      injection e with e
      exact .inr (by omega)

theorem numOk_fits {n : Nat} {s : Int} (h : numOk n s = true) : ∃ k : Nat, s = k ∧ fitsB n k := by
  simp only [numOk, decide_eq_true_eq] at h
  rcases h with ⟨rfl, h⟩ | ⟨rfl, h⟩ | ⟨rfl, h⟩ | rfl
  · exact ⟨1, rfl, .inl ⟨rfl, h⟩⟩
  · exact ⟨2, rfl, .inr (.inl ⟨rfl, h⟩)⟩
  · exact ⟨4, rfl, .inr (.inr (.inl ⟨rfl, h⟩))⟩
  · exact ⟨8, rfl, .inr (.inr (.inr rfl))⟩

set_option maxHeartbeats 1000000 in
theorem number_bad {w : World} {B g : Nat} {v : Value} {o : Option (List UInt8)} (h : WrS w B g v o) (n : Nat) (s : Int) (hs : numOk n s = false) (hn : n ≤ 18446744073709551615) :
    Calls Try.prog 25 #[.pointer (some ⟨g, 0, none⟩), .int .u64 n, .int .i64 s] w (Puts w B g v none) := by
  have hs' : ¬ ((s = 1 ∧ n < 256) ∨ (s = 2 ∧ n < 65536) ∨ (s = 4 ∧ n < 4294967296) ∨ s = 8) := by simpa [numOk] using hs
  cases hm : maySz s with
  | false =>
    have hm' := Lib.hid hm
    clear hm hs hs'
    go_enter Try.func25, Try.ntmps25
    go_wp2_with fail
    refine (maySize_no s hm'.out _).mono ?_
    rintro e w' ⟨rfl, rfl⟩
    go_wp2_with fail
    refine (fail_puts h).mono ?_
    rintro e w' ⟨rfl, hp⟩
    go_wp2_with fail
    go_ret
    exact ⟨rfl, hp⟩
  | true =>
    have hm' : s = 1 ∨ s = 2 ∨ s = 4 ∨ s = 8 := by simpa [maySz, or_assoc] using hm
    clear hm
    have hq : (s = 1 ∧ 256 ≤ n) ∨ (s = 2 ∧ 65536 ≤ n) ∨ (s = 4 ∧ 4294967296 ≤ n) := by omega
    clear hm' hs hs'
    rcases hq with ⟨rfl, hq⟩ | ⟨rfl, hq⟩ | ⟨rfl, hq⟩
    all_goals
      go_enter Try.func25, Try.ntmps25
      go_wp2_with fail
      refine (maySize_yes _ rfl _).mono ?_
      rintro e w' ⟨rfl, rfl⟩
      go_wp2_with fail
      refine (fail_puts h).mono ?_
      rintro e w' ⟨rfl, hp⟩
      go_wp2_with fail
      go_ret
      exact ⟨rfl, hp⟩

set_option maxHeartbeats 2000000 in
/-- A failed writer, and a number that would go. -/
theorem number_failed {w : World} {B g : Nat} {v : Value} (h : WrS w B g v none) (n s : Nat) (hs : fitsB n s) (hn : n ≤ 18446744073709551615) :
    Calls Try.prog 25 #[.pointer (some ⟨g, 0, none⟩), .int .u64 n, .int .i64 s] w (Puts w B g v none) := by
  have hw1 : WrS (w.alloc (.cells (beArr n 8) 91)) B g v none := h.keep (F := fun _ => False) ((Fr.refl _ _).alloc _) (fun _ _ => id)
  unfold fitsB at hs
  rcases hs with ⟨rfl, hs⟩ | ⟨rfl, hs⟩ | ⟨rfl, hs⟩ | rfl
  all_goals
    go_enter Try.func25, Try.ntmps25
    go_wp2_with fail
    refine (maySize_yes _ rfl _).mono ?_
    rintro e w' ⟨rfl, rfl⟩
    go_wp2_with fail
    go_loopw [21] (fun i wr => ∃ k : Nat, k ≤ 8 ∧ i = .int .i64 k ∧ wr = w.alloc (.cells (beArr n k) 91)) (fun i _ => 8 - (intOf i).toNat)
    case atStart => exact ⟨0, by omega, rfl, rfl⟩
    case round =>
      obtain ⟨k, hk, rfl, rfl⟩ := hrel
      have hk' : k = 0 ∨ k = 1 ∨ k = 2 ∨ k = 3 ∨ k = 4 ∨ k = 5 ∨ k = 6 ∨ k = 7 ∨ k = 8 := by omega
      clear hk
      rcases hk' with rfl | rfl | rfl | rfl | rfl | rfl | rfl | rfl | rfl
      rotate_right
      · go_wp2_with fail
        refine (bytes_failed hw1 _ _ _).mono ?_
        rintro e w' ⟨rfl, rfl⟩
        go_wp2_with fail
        go_ret
        exact ⟨rfl, v, hw1, (Fr.refl _ w).alloc _, fun _ hk => .inl hk⟩
      all_goals
        unfold beArr
        go_wp2_with fail
        first
          | refine ⟨⟨1, by omega, rfl, congrArg (fun a => World.alloc w (.cells a 91)) ?_⟩, by simp [intOf]⟩
          | refine ⟨⟨2, by omega, rfl, congrArg (fun a => World.alloc w (.cells a 91)) ?_⟩, by simp [intOf]⟩
          | refine ⟨⟨3, by omega, rfl, congrArg (fun a => World.alloc w (.cells a 91)) ?_⟩, by simp [intOf]⟩
          | refine ⟨⟨4, by omega, rfl, congrArg (fun a => World.alloc w (.cells a 91)) ?_⟩, by simp [intOf]⟩
          | refine ⟨⟨5, by omega, rfl, congrArg (fun a => World.alloc w (.cells a 91)) ?_⟩, by simp [intOf]⟩
          | refine ⟨⟨6, by omega, rfl, congrArg (fun a => World.alloc w (.cells a 91)) ?_⟩, by simp [intOf]⟩
          | refine ⟨⟨7, by omega, rfl, congrArg (fun a => World.alloc w (.cells a 91)) ?_⟩, by simp [intOf]⟩
          | refine ⟨⟨8, by omega, rfl, congrArg (fun a => World.alloc w (.cells a 91)) ?_⟩, by simp [intOf]⟩
        simp [beB]
        try omega

theorem number_puts {w : World} {B g : Nat} {v : Value} {o : Option (List UInt8)} (h : WrS w B g v o) (n : Nat) (s : Int) (hn : n ≤ 18446744073709551615) (hb : roomS o 8) :
    Calls Try.prog 25 #[.pointer (some ⟨g, 0, none⟩), .int .u64 n, .int .i64 s] w (Puts w B g v (putNum o n s)) := by
  cases hs : numOk n s with
  | false =>
    have e : putNum o n s = none := by cases o <;> simp [putNum, hs]
    rw [e]
    exact number_bad h n s hs hn
  | true =>
    obtain ⟨k, rfl, hk⟩ := numOk_fits hs
    cases o with
    | none => exact number_failed h n k hk hn
    | some xs =>
      have e : putNum (some xs) n (k : Int) = some (xs ++ be n k) := by simp [putNum, hs]
      rw [e]
      exact (number_any h n k hk hn hb).mono fun _ _ ⟨he, v', h1, h2, h3⟩ => ⟨he, v', h1, h2, fun i hi => by
        rcases h3 with e | q
        · exact .inl (by rw [← e]; exact hi)
        · exact .inr (q i hi)⟩

/-- The same of a number that is written as a whole one. -/
theorem number_puts_int {w : World} {B g : Nat} {v : Value} {o : Option (List UInt8)} (h : WrS w B g v o) (n : Int) (s : Int) (h0 : 0 ≤ n) (hn : n ≤ 18446744073709551615) (hb : roomS o 8) :
    Calls Try.prog 25 #[.pointer (some ⟨g, 0, none⟩), .int .u64 n, .int .i64 s] w (Puts w B g v (putNum o n.toNat s)) := by
  obtain ⟨m, rfl⟩ := Int.eq_ofNat_of_zero_le h0
  exact number_puts h m s (by omega) hb
end Go.Proofs.Ytmjkcjllpnpgpaa
