/- The document's page: Size, Free, Has. -/
import Derived.Test.YtijdbngjnhhheaaPkn
namespace Go.Proofs.Ytijdbngjnhhheaa
open Go.RowKit

section
variable {w : World} {A : Option Addr} {s : List Rec} {c : Nat}
set_option maxRecDepth 100000 in
/-- The block into which a page is put. -/
theorem box_ref (w : World) (v0 v1 v2 : Value) : ∃ X, X = w.alloc (.cells #[v0, v1, v2] 74) ∧ Blk X w.heap.size 74 #[v0, v1, v2] ∧ Fr (fun _ => False) w X :=
  ⟨_, rfl, Blk.new _ _ _, (Fr.refl _ _).alloc _⟩
set_option maxRecDepth 100000 in
theorem RecsAt.slot (h : RecsAt w A s) {i : Nat} (hi : i < s.length) : ∃ o CB u0 A1 k1, s[i]? = some o ∧ A = some ⟨CB, 0, none⟩ ∧ w.cell? ⟨CB, i * 2, none⟩ = some (.bool u0) ∧ w.cell? ⟨CB, i * 2 + 1, none⟩ = some (.slice A1 (rl o) k1) ∧ u0 = isB s i ∧ RecV w o (.bool u0) (.slice A1 (rl o) k1) := by
  obtain ⟨o, ho⟩ : ∃ o, s[i]? = some o := ⟨_, List.getElem?_eq_getElem hi⟩
  obtain ⟨CB, u0, u1, h1, h2, h3, h4⟩ := h i o ho
  cases o with
  | none =>
    obtain ⟨rfl, rfl⟩ := h4
    exact ⟨none, CB, false, none, 0, ho, h1, h2, h3, by simp [isB, ho], ⟨rfl, rfl⟩⟩
  | some b =>
    obtain ⟨rfl, A1, k1, rfl, hr⟩ := h4
    exact ⟨some b, CB, true, A1, k1, ho, h1, h2, h3, by simp [isB, ho], ⟨rfl, A1, k1, rfl, hr⟩⟩
set_option maxRecDepth 100000 in
theorem Size_any {k n : Int} (hR : RecsAt w A s) (hc : s.length ≤ c) (h9 : s.length ≤ 1000) (ht : tot s ≤ 1000000) :
    Calls Try.prog 48 #[.agg #[.int .i64 k, .int .i64 n, .slice A s.length c]] w fun e w' => e = .returned (.int .i64 ((12 + 4 * s.length + tot s : Nat) : Int)) ∧ Fr (fun _ => False) w w' := by
  obtain ⟨m, hm⟩ : ∃ m, m = s.length := ⟨_, rfl⟩
  obtain ⟨X, hX, hb, f⟩ := box_ref w (.int .i64 k) (.int .i64 n) (.slice A m c)
  have c2 := hb.cell 2
  simp at c2
  obtain ⟨T, hT⟩ : ∃ T, T = 12 + 4 * m + tot s := ⟨_, rfl⟩
  have HR := Lib.hid (hR.new f)
  have HM := Lib.hid (And.intro hm (And.intro ht hT))
  have HF := Lib.hid f
  rw [← hm] at hc h9 ⊢
  rw [← hT]
  clear hR hm ht hT f hb
  go_enter Try.func48, Try.ntmps48
  subst hX
  go_wp2_with fail
  go_loopw [3, 4] (fun v i wr => ∃ j q : Nat, v = .int .i64 q ∧ i = .int .i64 j ∧ j ≤ m ∧ Hid (q = 12 + 4 * m + tot (s.take j)) ∧ (w.alloc (.cells #[.int .i64 k, .int .i64 n, .slice A m c] 74)) = wr) (fun _ i _ => m - (intOf i).toNat)
  case atStart => exact ⟨0, 12 + 4 * m, by go_num, rfl, Nat.zero_le _, Lib.hid (by simp [tot]), rfl⟩
  case round =>
    obtain ⟨j, q, rfl, rfl, hj, HQ, rfl⟩ := hrel
    by_cases hlt : j < m
    · obtain ⟨o, CB, u0, A1, k1, ho, rfl, q0, q1, -, -⟩ := HR.out.slot (i := j) (by have := HM.out.1; omega)
      have hq9 : q + rl o ≤ 1010000 := by
        have h1 := tot_snoc ho
        have h2 := tot_take_le s (j + 1)
        have h3 := HM.out.2.1
        have h4 := HQ.out
        omega
      have HQ2 : Hid (q + rl o = 12 + 4 * m + tot (s.take (j + 1))) := Lib.hid (by have h1 := tot_snoc ho; have h4 := HQ.out; omega)
      have hi0 : (0 : Int) ≤ (j : Int) := by omega
      have hi1 : (j : Int) < (m : Int) := by omega
      generalize rl o = r at *
      clear ho q0 HQ
      go_wp2_with fail
      exact ⟨⟨j + 1, q + r, by go_num, by go_num, by omega, HQ2, trivial⟩, by simp [intOf]; omega⟩
    · obtain rfl : m = j := by omega
      have hq := HQ.out
      have hTq : T = q := by rw [HM.out.2.2, hq, List.take_of_length_le (by have := HM.out.1; omega)]
      subst hTq
      clear hq
      go_wp2_with fail
      go_ret
      exact ⟨rfl, HF.out⟩
set_option maxRecDepth 100000 in
theorem firstE_some {s : List Rec} {k : Nat} (h : isB s k = true) (hk : k ≤ firstE s) : k + 1 ≤ firstE s := by
  induction s generalizing k with
  | nil => simp [isB] at h
  | cons o s ih =>
    cases o with
    | none =>
      have : k = 0 := by simpa [firstE] using hk
      subst this
      simp [isB] at h
    | some b =>
      cases k with
      | zero => simp [firstE]
      | succ k =>
        simp only [firstE] at hk ⊢
        have := ih (k := k) (by simpa [isB] using h) (by omega)
        omega
set_option maxRecDepth 100000 in
theorem firstE_none {s : List Rec} {k : Nat} (h : isB s k = false) (hl : k < s.length) (hk : k ≤ firstE s) : firstE s = k := by
  induction s generalizing k with
  | nil => simp at hl
  | cons o s ih =>
    cases o with
    | none =>
      have : k = 0 := by simpa [firstE] using hk
      subst this
      rfl
    | some b =>
      cases k with
      | zero => simp [isB] at h
      | succ k =>
        simp only [firstE] at hk ⊢
        have := ih (k := k) (by simpa [isB] using h) (by simpa using hl) (by omega)
        omega
set_option maxRecDepth 100000 in
theorem Free_any {k n : Int} (hR : RecsAt w A s) (hc : s.length ≤ c) (h9 : s.length ≤ 1000) :
    Calls Try.prog 44 #[.agg #[.int .i64 k, .int .i64 n, .slice A s.length c]] w fun e w' => e = .returned (.int .i64 (firstE s)) ∧ Fr (fun _ => False) w w' := by
  obtain ⟨m, hm⟩ : ∃ m, m = s.length := ⟨_, rfl⟩
  obtain ⟨X, hX, hb, f⟩ := box_ref w (.int .i64 k) (.int .i64 n) (.slice A m c)
  have c2 := hb.cell 2
  simp at c2
  have HR := Lib.hid (hR.new f)
  have HM := Lib.hid hm
  have HF := Lib.hid f
  obtain ⟨E, hE⟩ : ∃ E, E = firstE s := ⟨_, rfl⟩
  have HE := Lib.hid hE
  rw [← hm] at hc h9 ⊢
  rw [← hE]
  have hEm : E ≤ m := by rw [hE, hm]; exact firstE_le s
  clear hR hm f hb hE
  go_enter Try.func44, Try.ntmps44
  subst hX
  go_wp2_with fail
  go_loopw [3] (fun i wr => ∃ j : Nat, i = .int .i64 j ∧ j ≤ m ∧ Hid (j ≤ E) ∧ (w.alloc (.cells #[.int .i64 k, .int .i64 n, .slice A m c] 74)) = wr) (fun i _ => m - (intOf i).toNat)
  case atStart => exact ⟨0, rfl, Nat.zero_le _, Lib.hid (Nat.zero_le _), rfl⟩
  case round =>
    obtain ⟨j, rfl, hj, HQ, rfl⟩ := hrel
    by_cases hlt : j < m
    · obtain ⟨o, CB, u0, A1, k1, ho, rfl, q0, q1, hu, -⟩ := HR.out.slot (i := j) (by have := HM.out; omega)
      have hi0 : (0 : Int) ≤ (j : Int) := by omega
      have hi1 : (j : Int) < (m : Int) := by omega
      clear ho q1
      cases u0 with
      | true =>
        have HQ2 : Hid (j + 1 ≤ E) := Lib.hid (by have h := HQ.out; rw [HE.out] at h ⊢; exact firstE_some hu.symm h)
        clear hu HQ
        go_wp2_with fail
        exact ⟨⟨j + 1, by go_num, by omega, HQ2, trivial⟩, by simp [intOf]; omega⟩
      | false =>
        have hjE : E = j := by have h := HQ.out; rw [HE.out] at h ⊢; exact firstE_none hu.symm (by have := HM.out; omega) h
        subst hjE
        clear hu HQ HE
        go_wp2_with fail
        go_ret
        exact ⟨rfl, HF.out⟩
    · obtain rfl : m = j := by omega
      have hjE : m = E := by have := HQ.out; omega
      clear HQ HE
      subst hjE
      clear hlt
      go_wp2_with fail
      go_ret
      exact ⟨rfl, HF.out⟩
set_option maxRecDepth 100000 in
theorem Has_any {k n z : Int} (hR : RecsAt w A s) (hc : s.length ≤ c) (h9 : s.length ≤ 1000) :
    Calls Try.prog 46 #[.agg #[.int .i64 k, .int .i64 n, .slice A s.length c], .int .i64 z] w fun e w' => e = .returned (.bool (decide (0 ≤ z) && isB s z.toNat)) ∧ Fr (fun _ => False) w w' := by
  obtain ⟨m, hm⟩ : ∃ m, m = s.length := ⟨_, rfl⟩
  obtain ⟨X, hX, hb, f⟩ := box_ref w (.int .i64 k) (.int .i64 n) (.slice A m c)
  have c2 := hb.cell 2
  simp at c2
  have HR := Lib.hid (hR.new f)
  have HM := Lib.hid hm
  have HF := Lib.hid f
  rw [← hm] at hc h9 ⊢
  clear hR hm f hb
  by_cases hz : z < 0
  · have hz2 : ¬ (0 ≤ z) := by omega
    simp only [hz2, decide_false, Bool.false_and]
    go_enter Try.func46, Try.ntmps46
    subst hX
    go_wp2_with fail
    go_ret
    exact ⟨rfl, HF.out⟩
  · obtain ⟨j, rfl⟩ : ∃ j : Nat, z = (j : Int) := ⟨z.toNat, by omega⟩
    have hz2 : (0 : Int) ≤ (j : Int) := by omega
    by_cases hlt : j < m
    · obtain ⟨o, CB, u0, A1, k1, ho, rfl, q0, q1, hu, -⟩ := HR.out.slot (i := j) (by have := HM.out; omega)
      have hi1 : (j : Int) < (m : Int) := by omega
      rw [Int.toNat_natCast, ← hu]
      simp only [hz2, decide_true, Bool.true_and]
      clear ho q1 hu hz
      go_enter Try.func46, Try.ntmps46
      subst hX
      go_wp2_with fail
      go_ret
      exact ⟨rfl, HF.out⟩
    · have hi1 : ¬ ((j : Int) < (m : Int)) := by omega
      have hu : isB s j = false := by
        unfold isB
        rw [List.getElem?_eq_none (by have := HM.out; omega)]
      rw [Int.toNat_natCast, hu, Bool.and_false]
      clear hu hz
      go_enter Try.func46, Try.ntmps46
      subst hX
      go_wp2_with fail
      go_ret
      exact ⟨rfl, HF.out⟩
end
end Go.Proofs.Ytijdbngjnhhheaa
