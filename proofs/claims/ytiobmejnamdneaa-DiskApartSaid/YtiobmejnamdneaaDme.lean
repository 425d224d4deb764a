/- The program's disk: its plain methods, on the five fields. -/
import Derived.Test.YtiobmejnamdneaaTor
namespace Go.Proofs.Ytiobmejnamdneaa
open Go.RowKit

/-- A disk's five fields. -/
abbrev dskC (A : Option Addr) (n c : Nat) (m : Value) (f : Bool) (l : Int) (dd : Bool) : Array Value := #[.slice A n c, m, .bool f, .int .i64 l, .bool dd]

section
variable {w : World} {g n c : Nat} {A : Option Addr} {m : Value} {f dd : Bool} {l : Int}

theorem dsk_cells (h : Blk w g 63 (dskC A n c m f l dd)) : w.cell? ⟨g, 0, none⟩ = some (.slice A n c) ∧ w.cell? ⟨g, 1, none⟩ = some m ∧ w.cell? ⟨g, 2, none⟩ = some (.bool f) ∧ w.cell? ⟨g, 3, none⟩ = some (.int .i64 l) ∧ w.cell? ⟨g, 4, none⟩ = some (.bool dd) :=
  ⟨(h.cell 0).trans rfl, (h.cell 1).trans rfl, (h.cell 2).trans rfl, (h.cell 3).trans rfl, (h.cell 4).trans rfl⟩

theorem none_nil (w : World) : Calls Try.prog 27 #[.pointer none] w fun e w' => e = .returned (.bool true) ∧ w = w' := by
  go_enter Try.func27, Try.ntmps27
  go_wp2_with fail
  go_ret
  exact ⟨rfl, rfl⟩
theorem none_any (h : Blk w g 63 (dskC A n c m f l dd)) : Calls Try.prog 27 #[.pointer (some ⟨g, 0, none⟩)] w fun e w' => e = .returned (.bool (decide (n = 0))) ∧ w = w' := by
  obtain ⟨c0, c1, c2, c3, c4⟩ := dsk_cells h
  obtain ⟨b, hb⟩ : ∃ b, b = decide (n = 0) := ⟨_, rfl⟩
  have hb2 : ((n : Int) == 0) = b := by rw [hb, Bool.eq_iff_iff]; simp; 
  rw [← hb]
  clear hb
  go_enter Try.func27, Try.ntmps27
  go_wp2_with fail
  go_ret
  exact ⟨rfl, rfl⟩

theorem sectors_nil (w : World) : Calls Try.prog 29 #[.pointer none] w fun e w' => e = .returned (.int .i64 0) ∧ w = w' := by
  go_enter Try.func29, Try.ntmps29
  go_wp2_with (go_at_call 27; refine (none_nil _).mono ?_; rintro e w' ⟨rfl, rfl⟩)
  go_ret
  exact ⟨rfl, rfl⟩
theorem sectors_any (h : Blk w g 63 (dskC A n c m f l dd)) : Calls Try.prog 29 #[.pointer (some ⟨g, 0, none⟩)] w fun e w' => e = .returned (.int .i64 n) ∧ w = w' := by
  obtain ⟨c0, c1, c2, c3, c4⟩ := dsk_cells h
  rcases Nat.eq_zero_or_pos n with rfl | hn
  · go_enter Try.func29, Try.ntmps29
    go_wp2_with (go_at_call 27; refine (none_any h).mono ?_; rintro e w' ⟨rfl, rfl⟩)
    go_ret
    exact ⟨rfl, rfl⟩
  · have hd : decide (n = 0) = false := by simp; omega
    have hN := none_any h
    rw [hd] at hN
    go_enter Try.func29, Try.ntmps29
    go_wp2_with (go_at_call 27; refine hN.mono ?_; rintro e w' ⟨rfl, rfl⟩)
    go_ret
    exact ⟨rfl, rfl⟩

theorem dead_nil (w : World) : Calls Try.prog 33 #[.pointer none] w fun e w' => e = .returned (.bool false) ∧ w = w' := by
  go_enter Try.func33, Try.ntmps33
  go_wp2_with (go_at_call 27; refine (none_nil _).mono ?_; rintro e w' ⟨rfl, rfl⟩)
  go_ret
  exact ⟨rfl, rfl⟩
theorem dead_any (h : Blk w g 63 (dskC A n c m f l dd)) : Calls Try.prog 33 #[.pointer (some ⟨g, 0, none⟩)] w fun e w' => e = .returned (.bool (!decide (n = 0) && dd)) ∧ w = w' := by
  obtain ⟨c0, c1, c2, c3, c4⟩ := dsk_cells h
  have hN := none_any h
  cases hd : decide (n = 0)
  all_goals
    rw [hd] at hN
    go_enter Try.func33, Try.ntmps33
    go_wp2_with (go_at_call 27; refine hN.mono ?_; rintro e w' ⟨rfl, rfl⟩)
    go_ret
    exact ⟨by simp, rfl⟩

/-- Which error a sector's number has. -/
def hasE (n : Nat) (i : Int) : Int := if n = 0 then 1 else if i < 0 ∨ (n : Int) ≤ i then 2 else 0
theorem has_nil (w : World) (i : Int) : Calls Try.prog 34 #[.pointer none, .int .i64 i] w fun e w' => e = .returned (.int .i64 1) ∧ w = w' := by
  go_enter Try.func34, Try.ntmps34
  go_wp2_with (go_at_call 27; refine (none_nil _).mono ?_; rintro e w' ⟨rfl, rfl⟩)
  go_ret
  exact ⟨rfl, rfl⟩
theorem has_any (h : Blk w g 63 (dskC A n c m f l dd)) (i : Int) : Calls Try.prog 34 #[.pointer (some ⟨g, 0, none⟩), .int .i64 i] w fun e w' => e = .returned (.int .i64 (hasE n i)) ∧ w = w' := by
  obtain ⟨c0, c1, c2, c3, c4⟩ := dsk_cells h
  have hN := none_any h
  obtain ⟨r, hr⟩ : ∃ r, r = hasE n i := ⟨_, rfl⟩
  rw [← hr]
  unfold hasE at hr
  rcases Nat.eq_zero_or_pos n with rfl | hn
  · have h1 : r = 1 := by rw [hr]; simp
    subst h1
    clear hr
    go_enter Try.func34, Try.ntmps34
    go_wp2_with (go_at_call 27; refine hN.mono ?_; rintro e w' ⟨rfl, rfl⟩)
    go_ret
    exact ⟨rfl, rfl⟩
  · have hd : decide (n = 0) = false := by simp; omega
    rw [hd] at hN
    rw [if_neg (by omega)] at hr
    by_cases h0 : i < 0
    · have h1 : r = 2 := by rw [hr, if_pos (.inl h0)]
      subst h1
      clear hr hd
      go_enter Try.func34, Try.ntmps34
      go_wp2_with (go_at_call 27; refine hN.mono ?_; rintro e w' ⟨rfl, rfl⟩)
      go_ret
      exact ⟨rfl, rfl⟩
    · by_cases h2 : (n : Int) ≤ i
      · have h1 : r = 2 := by rw [hr, if_pos (.inr h2)]
        subst h1
        clear hr hd
        go_enter Try.func34, Try.ntmps34
        go_wp2_with (go_at_call 27; refine hN.mono ?_; rintro e w' ⟨rfl, rfl⟩)
        go_ret
        exact ⟨rfl, rfl⟩
      · have h1 : r = 0 := by rw [hr, if_neg (by omega)]
        subst h1
        clear hr hd
        go_enter Try.func34, Try.ntmps34
        go_wp2_with (go_at_call 27; refine hN.mono ?_; rintro e w' ⟨rfl, rfl⟩)
        go_ret
        exact ⟨rfl, rfl⟩
end
end Go.Proofs.Ytiobmejnamdneaa
