/- The reader of package wire: what each of its methods does to it. -/
import Derived.Test.YtmjkcjllpnpgpaaEnd
import Derived.Test.YtmjkcjllpnpgpaaCut
namespace Go.Proofs.Ytmjkcjllpnpgpaa
open Go.RowKit

/-- In block g stands a reader that has l left (f: it failed; m: it was made). -/
def Rr (w : World) (g : Nat) (l : List UInt8) (f m : Bool) : Prop :=
  ∃ A n c, Blk w g 82 #[.slice A n c, .bool f, .bool m] ∧ Rd w A n l ∧ n ≤ c ∧ n ≤ 70368744177664 ∧ (A = none → c = 0) ∧ (∀ ad, A = some ad → ad.block ≠ g ∧ ad.block < w.heap.size)

theorem Rr.keep {F : Nat → Prop} {w w' : World} {g : Nat} {l : List UInt8} {f m : Bool} (h : Rr w g l f m) (hf : Fr F w w') (hF : ∀ k, F k → w.heap.size ≤ k) : Rr w' g l f m := by
  obtain ⟨A, n, c, hb, hr, hnc, hc, hA, hne⟩ := h
  refine ⟨A, n, c, hb.keep hf (fun h => by have := hF g h; have := hb.lt; omega), hr.keep hf (fun ad e h => ?_), hnc, hc, hA, fun ad e => ⟨(hne ad e).1, Nat.lt_of_lt_of_le (hne ad e).2 hf.size⟩⟩
  have := hF _ h
  have := (hne ad e).2
  omega
theorem Rr.lt {w : World} {g : Nat} {l : List UInt8} {f m : Bool} (h : Rr w g l f m) : g < w.heap.size := by
  obtain ⟨A, n, c, hb, _⟩ := h
  exact hb.lt

theorem rfail_nil (w : World) : Calls Try.prog 21 #[.pointer none] w fun e w' => e = .returned (.tuple #[]) ∧ w = w' := by
  go_enter Try.func21, Try.ntmps21
  go_wp2
  go_end0
  exact ⟨rfl, rfl⟩

theorem rfail_any {w : World} {g : Nat} {l : List UInt8} {f m : Bool} (h : Rr w g l f m) :
    Calls Try.prog 21 #[.pointer (some ⟨g, 0, none⟩)] w fun e w' => e = .returned (.tuple #[]) ∧ Rr w' g [] true m ∧ Fr (fun k => k = g) w w' := by
  obtain ⟨A, n, c, hb, hr, hnc, hc, hA, hne⟩ := h
  have h0 := hb.cell 0
  have h1 := hb.cell 1
  have f0 := hb.frozen 0
  have f1 := hb.frozen 1
  simp at h0 h1
  clear hnc
  go_enter Try.func21, Try.ntmps21
  go_wp2
  go_end0
  refine ⟨rfl, ⟨none, 0, 0, (hb.set_ 0 _).set_ 1 _, Rd.nil _ _, Nat.le_refl _, by omega, fun _ => rfl, fun _ e => by cases e⟩, ?_⟩
  exact ((Fr.refl (fun k => k = g) w).setCell (p := ⟨g, 0, none⟩) (.inl rfl) _).setCell (p := ⟨g, 1, none⟩) (.inl rfl) _

theorem has_nil (w : World) (n : Int) : Calls Try.prog 50 #[.pointer none, .int .i64 n] w fun e w' => e = .returned (.bool false) ∧ w = w' := by
  go_enter Try.func50, Try.ntmps50
  go_wp2
  go_ret
  exact ⟨rfl, rfl⟩

theorem has_yes {w : World} {g : Nat} {l : List UInt8} {f m : Bool} (h : Rr w g l f m) (n : Int) (hn : n ≤ l.length) :
    Calls Try.prog 50 #[.pointer (some ⟨g, 0, none⟩), .int .i64 n] w fun e w' => e = .returned (.bool true) ∧ w = w' := by
  obtain ⟨A, k, c, hb, hr, hnc, hc, hA, hne⟩ := h
  have h0 := hb.cell 0
  simp at h0
  have hl := hr.len
  have hd : decide (n ≤ (k : Int)) = true := by rw [decide_eq_true_eq, ← hl]; exact hn
  clear hnc hl hn
  go_enter Try.func50, Try.ntmps50
  go_wp2
  go_ret
  exact ⟨rfl, rfl⟩

theorem has_no {w : World} {g : Nat} {l : List UInt8} {f m : Bool} (h : Rr w g l f m) (n : Int) (hn : (l.length : Int) < n) :
    Calls Try.prog 50 #[.pointer (some ⟨g, 0, none⟩), .int .i64 n] w fun e w' => e = .returned (.bool false) ∧ w = w' := by
  obtain ⟨A, k, c, hb, hr, hnc, hc, hA, hne⟩ := h
  have h0 := hb.cell 0
  simp at h0
  have hl := hr.len
  have hd : decide (n ≤ (k : Int)) = false := by rw [decide_eq_false_iff_not, ← hl]; omega
  clear hnc hl hn
  go_enter Try.func50, Try.ntmps50
  go_wp2
  go_ret
  exact ⟨rfl, rfl⟩

theorem left_nil (w : World) : Calls Try.prog 19 #[.pointer none] w fun e w' => e = .returned (.int .i64 0) ∧ w = w' := by
  go_enter Try.func19, Try.ntmps19
  go_wp2
  go_ret
  exact ⟨rfl, rfl⟩

theorem left_any {w : World} {g : Nat} {l : List UInt8} {f m : Bool} (h : Rr w g l f m) :
    Calls Try.prog 19 #[.pointer (some ⟨g, 0, none⟩)] w fun e w' => e = .returned (.int .i64 (l.length : Nat)) ∧ w = w' := by
  obtain ⟨A, k, c, hb, hr, hnc, hc, hA, hne⟩ := h
  obtain rfl := hr.len
  have h0 := hb.cell 0
  simp at h0
  clear hnc
  go_enter Try.func19, Try.ntmps19
  go_wp2
  go_ret
  exact ⟨rfl, rfl⟩

theorem rend_nil (w : World) : Calls Try.prog 20 #[.pointer none] w fun e w' => e = .returned (.int .i64 1) ∧ w = w' := by
  go_enter Try.func20, Try.ntmps20
  go_wp2
  go_ret
  exact ⟨rfl, rfl⟩
theorem rend_zero {w : World} {g : Nat} {l : List UInt8} {f : Bool} (h : Rr w g l f false) : Calls Try.prog 20 #[.pointer (some ⟨g, 0, none⟩)] w fun e w' => e = .returned (.int .i64 1) ∧ w = w' := by
  obtain ⟨A, k, c, hb, hr, hnc, hc, hA, hne⟩ := h
  have h0 := hb.cell 0
  have h1 := hb.cell 1
  have h2 := hb.cell 2
  simp at h0 h1 h2
  clear hnc
  go_enter Try.func20, Try.ntmps20
  go_wp2
  go_ret
  exact ⟨rfl, rfl⟩
/-- What End answers. -/
def rendOf (l : List UInt8) (f : Bool) : Int := if f || !l.isEmpty then 4 else 0
theorem rend_any {w : World} {g : Nat} {l : List UInt8} {f : Bool} (h : Rr w g l f true) : Calls Try.prog 20 #[.pointer (some ⟨g, 0, none⟩)] w fun e w' => e = .returned (.int .i64 (rendOf l f)) ∧ w = w' := by
  obtain ⟨A, k, c, hb, hr, hnc, hc, hA, hne⟩ := h
  obtain rfl := hr.len
  have h0 := hb.cell 0
  have h1 := hb.cell 1
  have h2 := hb.cell 2
  simp at h0 h1 h2
  clear hnc hr hne hA hc
  cases f with
  | true =>
    go_enter Try.func20, Try.ntmps20
    go_wp2
    go_ret
    exact ⟨rfl, rfl⟩
  | false =>
    cases l with
    | nil =>
      simp only [List.length_nil] at h0
      go_enter Try.func20, Try.ntmps20
      go_wp2
      go_ret
      exact ⟨rfl, rfl⟩
    | cons x r =>
      obtain ⟨j, hj⟩ : ∃ j, (x :: r).length = j + 1 := ⟨r.length, rfl⟩
      rw [hj] at h0
      clear hj
      have hd : decide (0 < (j : Int) + 1) = true := by rw [decide_eq_true_eq]; omega
      have hd' : decide (0 < ((j + 1 : Nat) : Int)) = true := by rw [decide_eq_true_eq]; omega
      go_enter Try.func20, Try.ntmps20
      go_wp2
      go_ret
      exact ⟨rfl, rfl⟩

theorem read_any {w : World} {A : Option Addr} {n c : Nat} {l : List UInt8} (hr : Rd w A n l) (hA : A = none → c = 0) (hn : n ≤ 70368744177664) :
    Calls Try.prog 16 #[.slice A n c] w fun e w' => ∃ g, e = .returned (.pointer (some ⟨g, 0, none⟩)) ∧ Rr w' g l false true ∧ Fr (fun _ => False) w w' ∧ w.heap.size ≤ g := by
  have H := Lib.hid hr
  have HA := Lib.hid hA
  clear hr hA
  go_enter Try.func16, Try.ntmps16
  go_wp2_with fail
  refine (clone_any H.out HA.out (by omega)).mono ?_
  rintro e w1 ⟨x, rfl, hm⟩
  obtain ⟨B, c', rfl, hB, hc, hcm, hr⟩ := own_rd hm.1
  have hl := H.out.len
  have hf := hm.2
  have hs := hf.size
  have ho := Lib.hid hm.1
  have Hr := Lib.hid hr
  have HB := Lib.hid hB
  clear hm hr hB
  go_wp2
  go_ret
  refine ⟨_, rfl, ⟨B, n, c', Blk.new _ _ _, by have := Hr.out.alloc (.cells #[Value.slice B n c', Value.bool false, Value.bool true] 82); rwa [hl] at this, by omega, by omega, HB.out, fun ad e => ?_⟩, hf.alloc _, hs⟩
  subst e
  have := (ho.out.lt ad.block rfl).2
  exact ⟨by omega, by simp; omega⟩

theorem szU8 (w : World) : (sizeOf (Try.prog.elem 26)).run Try.prog w = .ok 1 w := by kernel_rfl
theorem undU8 : Try.prog.underlying 26 = some (.slice (Try.prog.elem 26)) := by kernel_rfl

/-- What a method of a reader leaves: the reader has l left, and only its own block has turned. -/
def Left (w : World) (g : Nat) (l : List UInt8) (f m : Bool) (w' : World) : Prop := Rr w' g l f m ∧ Fr (fun k => k = g) w w'

theorem one_any {w : World} {g : Nat} {x : UInt8} {l : List UInt8} {f m : Bool} (h : Rr w g (x :: l) f m) :
    Calls Try.prog 53 #[.pointer (some ⟨g, 0, none⟩)] w fun e w' => e = .returned (.int .u64 (x.toNat : Int)) ∧ Left w g l f m w' := by
  obtain ⟨A, n, c, hb, hr, hnc, hn, hA, hne⟩ := h
  have h0 := hb.cell 0
  have f0 := hb.frozen 0
  simp at h0
  have hl := hr.len
  have h1n : 1 ≤ n := by rw [← hl]; simp
  obtain ⟨A', hs, hr', hA', hB⟩ := slice_from (P := Try.prog) undU8 szU8 hr hnc hA 1 h1n
  obtain ⟨ad, e0, hcell⟩ := hr.2 (by omega)
  subst e0
  have hc0 := hcell 0 x rfl
  rw [show ad.add 0 = ad from rfl] at hc0
  have hne0 := (hne ad rfl)
  have H := Lib.hid (And.intro hb (And.intro hr' (And.intro hA' hB)))
  obtain ⟨j, rfl⟩ : ∃ j, n = j + 1 := ⟨n - 1, by omega⟩
  have hs1 : ∀ W, (Instr.slice 26 (.slice (some ad) (j + 1) c) (some (.int .i64 1)) none none).run Try.prog W = .ok (.slice A' j (c - 1)) W := hs
  clear hs
  clear hr hr' hA' hB hA hne hcell hl h1n hb
  go_enter Try.func53, Try.ntmps53
  have hx := x.toNat_lt
  go_wp2
  go_ret
  obtain ⟨hb, hr', hA', hB⟩ := H.out
  have hf : Fr (fun k => k = g) w (w.setCell ⟨g, 0, none⟩ (.slice A' j (c - 1))) := (Fr.refl (fun k => k = g) w).setCell (p := ⟨g, 0, none⟩) (.inl rfl) _
  have hg : ∀ ad', A' = some ad' → ad'.block ≠ g ∧ ad'.block < w.heap.size := by
    intro ad' e'
    obtain ⟨ad2, e2, e3⟩ := hB ad' e'
    injection e2 with e2
    subst e2
    rw [e3]
    exact hne0
  refine ⟨rfl, ⟨A', j, c - 1, hb.set_ 0 _, hr'.keep hf (fun ad' e' => (hg ad' e').1), by omega, by omega, hA', fun ad' e' => ⟨(hg ad' e').1, Nat.lt_of_lt_of_le (hg ad' e').2 hf.size⟩⟩, hf⟩
end Go.Proofs.Ytmjkcjllpnpgpaa
