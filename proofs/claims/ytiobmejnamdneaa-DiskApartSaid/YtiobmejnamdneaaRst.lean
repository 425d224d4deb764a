/- The document's disk: its row, cell by cell; Step; In. -/
import Derived.Test.YtiobmejnamdneaaLth
namespace Go.Proofs.Ytiobmejnamdneaa
open Go.RowKit Go.Maps

theorem own_base {w : World} {base e size n : Nat} {v : Value} {xs : List Value} (h : w.ownsRow base e size v n xs) {b : Nat} (hb : v.ownBlock = some b) : base ≤ b := by
  rcases h.2 with ⟨q, _⟩ | ⟨b', cap, cur, q, h1, _⟩
  · rw [q] at hb; simp [Value.ownBlock] at hb
  · rw [q] at hb
    have hb2 : b' = b := by simpa [Value.ownBlock] using hb
    rw [← hb2]
    exact h1
section
variable {w w' : World} {g : Nat} {v : Value} {vs : List Value} {r : RD}
/-- The row, as a block. -/
theorem RefW.form (h : RefW w g v vs r) (hn : 0 < r.V.length) : ∃ (RB c : Nat) (cur : Array Value), v = .slice (some ⟨RB, 0, none⟩) r.V.length c ∧ Blk w RB 38 cur ∧ r.V.length ≤ c ∧ c ≤ maxLen ∧ cur.size = c ∧ cur.toList.take r.V.length = vs := by
  rcases h.row.2 with ⟨_, e⟩ | ⟨b, cap, cur, rfl, _, hb, h1, h2, h3, h4⟩
  · omega
  · exact ⟨b, cap, cur, rfl, hb, h1, h2, by omega, by simpa using h4⟩
theorem row_at {RB n : Nat} {cur : Array Value} {t : TypeId} (hb : Blk w RB t cur) (ht : cur.toList.take n = vs) {i : Nat} {x : Value} (hi : vs[i]? = some x) : w.cell? ⟨RB, i, none⟩ = some x := by
  rw [hb.cell]
  rw [← ht, List.getElem?_take] at hi
  split at hi
  · simpa using hi
  · cases hi
/-- Its struct is written. -/
theorem RefW.struct (h : RefW w g v vs r) (f : Fr (fun b => b = g) w w') {left : Int} {dead : Bool} (hb : Blk w' g 41 #[v, .int .i64 left, .bool dead]) : RefW w' g v vs { r with left := left, dead := dead } :=
  h.turn (f.mono (fun _ _ q => .inl q)) hb (own_keep h.row f (fun b hb e => h.g_row (by have e' : b = g := e; rw [← e']; exact hb))) (fun i x ss hx hs => .inl ⟨List.mem_of_getElem? hx, hs, hx⟩)
/-- A step. -/
def RD.out (r : RD) : Bool := r.dead || r.left == 0
def RD.stepD (r : RD) : RD := { r with left := if r.out then r.left else if 0 < r.left then r.left - 1 else r.left, dead := r.out }
theorem rstep_any (h : RefW w g v vs r) (h1 : r.left ≤ 9223372036854775807) : Calls Try.prog 37 #[.pointer (some ⟨g, 0, none⟩)] w fun e w' =>
    e = .returned (.bool (!r.out)) ∧ RefW w' g v vs r.stepD ∧ Fr (fun b => b = g) w w' := by
  have c1 : w.cell? ⟨g, 1, none⟩ = some (.int .i64 r.left) := (h.blk.cell 1).trans rfl
  have c2 : w.cell? ⟨g, 2, none⟩ = some (.bool r.dead) := (h.blk.cell 2).trans rfl
  have f1 := h.blk.frozen 1
  have f2 := h.blk.frozen 2
  obtain ⟨l, hl⟩ : ∃ l, l = r.left := ⟨_, rfl⟩
  obtain ⟨dd, hdd⟩ : ∃ dd, dd = r.dead := ⟨_, rfl⟩
  rw [← hl] at c1 h1
  rw [← hdd] at c2
  have H := Lib.hid (And.intro h (And.intro hl hdd))
  by_cases h0 : l = 0
  · have ho : r.out = true := by unfold RD.out; rw [← hl, h0]; simp
    have hs := h.blk.set_ 2 (.bool true)
    have hk : (w.setCell ⟨g, 2, none⟩ (.bool true)).cell? ⟨g, 2, none⟩ = some (.bool true) := by rw [hs.cell]; rfl
    have hb0 : (l == 0) = true := by simp [h0]
    have hr : RefW (w.setCell ⟨g, 2, none⟩ (.bool true)) g v vs r.stepD := by
      have := h.struct (left := r.left) (dead := true) ((Fr.refl (fun b => b = g) w).setCell (p := ⟨g, 2, none⟩) (.inl rfl) _) hs
      unfold RD.stepD
      rw [ho, if_pos rfl]
      exact this
    rw [ho]
    have HR := Lib.hid hr
    subst h0
    clear h hs ho hl hdd hr
    go_enter Try.func37, Try.ntmps37
    go_wp2_with fail
    go_ret
    exact ⟨rfl, HR.out, (Fr.refl (fun b => b = g) w).setCell (p := ⟨g, 2, none⟩) (.inl rfl) _⟩
  · have hb0 : (l == 0) = false := by simp [h0]
    cases dd with
    | true =>
      have ho : r.out = true := by unfold RD.out; rw [← hdd]; rfl
      have hr : RefW w g v vs r.stepD := by
        unfold RD.stepD
        rw [ho, if_pos rfl]
        have e : ({ r with left := r.left, dead := true } : RD) = r := by
          cases r
          simp at hdd
          simp [hdd]
        rw [e]
        exact h
      rw [ho]
      have HR := Lib.hid hr
      clear h ho hl hdd hr
      go_enter Try.func37, Try.ntmps37
      go_wp2_with fail
      go_ret
      exact ⟨rfl, HR.out, Fr.refl _ _⟩
    | false =>
      have ho : r.out = false := by unfold RD.out; rw [← hdd, ← hl, hb0]; rfl
      rw [ho]
      by_cases hp : 0 < l
      · have hp' : l > 0 := hp
        have hw : IntKind.i64.wrap (l - 1) = l - 1 := by
          simp [IntKind.wrap, IntKind.signed, IntKind.bits]
          omega
        have hs := h.blk.set_ 1 (.int .i64 (l - 1))
        have hr : RefW (w.setCell ⟨g, 1, none⟩ (.int .i64 (l - 1))) g v vs r.stepD := by
          have := h.struct (left := l - 1) (dead := r.dead) ((Fr.refl (fun b => b = g) w).setCell (p := ⟨g, 1, none⟩) (.inl rfl) _) hs
          unfold RD.stepD
          rw [ho, ← hl, if_pos hp]
          rw [← hdd] at this
          exact this
        have HR := Lib.hid hr
        clear h hs ho hl hdd hr
        go_enter Try.func37, Try.ntmps37
        go_wp2_with fail
        go_ret
        exact ⟨rfl, HR.out, (Fr.refl (fun b => b = g) w).setCell (p := ⟨g, 1, none⟩) (.inl rfl) _⟩
      · have hr : RefW w g v vs r.stepD := by
          unfold RD.stepD
          rw [ho, ← hl, if_neg hp]
          have e : ({ r with left := if false = true then l else l, dead := false } : RD) = r := by
            cases r
            simp at hdd hl
            simp [hdd, hl]
          rw [e]
          exact h
        have HR := Lib.hid hr
        clear h ho hl hdd hr
        go_enter Try.func37, Try.ntmps37
        go_wp2_with fail
        go_ret
        exact ⟨rfl, HR.out, Fr.refl _ _⟩
theorem rin_any (h : RefW w g v vs r) (i : Int) : Calls Try.prog 21 #[.pointer (some ⟨g, 0, none⟩), .int .i64 i] w fun e w' => e = .returned (.bool (decide (0 ≤ i) && decide (i < (r.V.length : Int)))) ∧ w = w' := by
  obtain ⟨A, c, hv, _, _⟩ := own_slice h.row
  have c0 : w.cell? ⟨g, 0, none⟩ = some v := (h.blk.cell 0).trans rfl
  rw [hv] at c0
  obtain ⟨n, hn⟩ : ∃ n, n = r.V.length := ⟨_, rfl⟩
  rw [← hn] at c0 ⊢
  clear h hv hn
  by_cases h0 : 0 ≤ i
  · by_cases h1 : i < (n : Int)
    · rw [decide_eq_true h0, decide_eq_true h1]
      go_enter Try.func21, Try.ntmps21
      go_wp2_with fail
      go_ret
      exact ⟨rfl, rfl⟩
    · rw [decide_eq_true h0, decide_eq_false h1]
      go_enter Try.func21, Try.ntmps21
      go_wp2_with fail
      go_ret
      exact ⟨rfl, rfl⟩
  · rw [decide_eq_false h0]
    have h2 : i < 0 := by omega
    go_enter Try.func21, Try.ntmps21
    go_wp2_with fail
    go_ret
    exact ⟨rfl, rfl⟩
end
end Go.Proofs.Ytiobmejnamdneaa
