/- Rows of rows of statuses. -/
import Derived.Test.YthffnepfnadakaaSwk
namespace Go.Proofs.Ythffnepfnadakaa
open Go.RowKit

theorem infoSs : (Try.prog.info? 25).map (fun i => (i.zero, i.size, i.bytes)) = some (some (.slice none 0 0), 1, 24) := by kernel_rfl
/-- Values that are rows of statuses, from the block base on, in none that is 'own'. -/
def ElsS (w : World) (base : Nat) (own : Option Nat) (vs : List Value) (ls : List (List Nat)) : Prop :=
  vs.length = ls.length ∧ ∀ (i : Nat) l, ls[i]? = some l → ∃ u, vs[i]? = some u ∧ IntsAt w u (upN l) ∧ ∀ b, u.ownBlock = some b → base ≤ b ∧ own ≠ some b ∧ b < w.heap.size
def LstS (w : World) (base : Nat) (v : Value) (ls : List (List Nat)) : Prop := ∃ vs, w.ownsRow base 25 1 v ls.length vs ∧ ElsS w base v.ownBlock vs ls
theorem ElsS.keep {F : Nat → Prop} {w w' : World} {base : Nat} {own : Option Nat} {vs : List Value} {ls : List (List Nat)} (h : ElsS w base own vs ls) (f : Fr F w w') (hF : ∀ j, base ≤ j → some j ≠ own → ¬ F j) : ElsS w' base own vs ls := by
  refine ⟨h.1, fun i l hi => ?_⟩
  obtain ⟨u, h1, h2, h3⟩ := h.2 i l hi
  exact ⟨u, h1, h2.new f (fun b hb => hF b (h3 b hb).1 (fun q => (h3 b hb).2.1 q.symm)), fun b hb => ⟨(h3 b hb).1, (h3 b hb).2.1, Nat.lt_of_lt_of_le (h3 b hb).2.2 f.size⟩⟩
theorem LstS.new {w w' : World} {base : Nat} {v : Value} {ls : List (List Nat)} (h : LstS w base v ls) (f : Fr (fun _ => False) w w') : LstS w' base v ls := by
  obtain ⟨vs, h1, h2⟩ := h
  exact ⟨vs, own_keep h1 f (fun _ _ q => q), h2.keep f (fun _ _ _ q => q)⟩
theorem LstS.nil (w : World) (base : Nat) : LstS w base (.slice none 0 0) [] := ⟨[], World.ownsRow_nil _ _ _ _, rfl, fun i l hi => by simp at hi⟩
theorem LstS.form {w : World} {base : Nat} {v : Value} {ls : List (List Nat)} (h : LstS w base v ls) : ∃ A c, v = .slice A ls.length c ∧ ls.length ≤ maxLen := by
  obtain ⟨vs, h1, _⟩ := h
  obtain ⟨A, c, e, h2, h3⟩ := own_slice h1
  exact ⟨A, c, e, by omega⟩
theorem LstS.at_ {w : World} {base : Nat} {v : Value} {ls : List (List Nat)} (h : LstS w base v ls) {i : Nat} {l : List Nat} (hi : ls[i]? = some l) : ∃ g cap u, v = .slice (some ⟨g, 0, none⟩) ls.length cap ∧ w.cell? ⟨g, i, none⟩ = some u ∧ IntsAt w u (upN l) := by
  obtain ⟨vs, h1, h2⟩ := h
  obtain ⟨u, hu, h3, h4⟩ := h2.2 i l hi
  obtain ⟨hl, ⟨rfl, h0⟩ | ⟨g, cap, cur, rfl, hb, hg, hc1, hc2, hc3, hc4⟩⟩ := h1
  · have := (List.getElem?_eq_some_iff.1 hi).1
    omega
  · refine ⟨g, cap, u, rfl, ?_, h3⟩
    have hil : i < ls.length * 1 := by rw [Nat.mul_one]; exact (List.getElem?_eq_some_iff.1 hi).1
    rw [← hc4, List.getElem?_take_of_lt hil, Array.getElem?_toList] at hu
    rw [cell_of_row w g i cur _ _ hg]
    exact hu
theorem slice_of_sl (A : Option Addr) (n c : Nat) (w : World) : (Instr.buildSlice 52 1 #[(0, .slice A n c)]).run Try.prog w = .ok (.slice (some ⟨w.heap.size, 0, none⟩) 1 1) (w.alloc (.cells #[.slice A n c] 25)) := by
  obtain ⟨i0, hi, hz0, hz1, hz2⟩ := info_parts infoSs
  refine run_buildSlice w 52 25 1 _ _ i0 _ Try.underlying52 hi hz0 (by rw [hz1]; omega) (by rw [hz1]; omega) ?_
  rw [hz1]
  have hb : ((Array.range (1 * 1)).map ((Value.slice none 0 0).cells[· % (Value.slice none 0 0).cells.size]!)) = #[Value.slice none 0 0] := by
    apply Array.ext
    · simp
    · intro i h1 h2
      simp at h1
      simp [Value.cells, h1]
  rw [hb]
  simp [Instr.fill, Value.cells]
/-- One row more. -/
theorem append_sl {w : World} {base g : Nat} {v : Value} {ls : List (List Nat)} {l : List Nat} {A : Option Addr} {n c : Nat} (h : LstS w base v ls) (hg : w.cell? ⟨g, 0, none⟩ = some (.slice A n c)) (hu : IntsAt w (.slice A n c) (upN l)) (hb : ∀ b, (Value.slice A n c).ownBlock = some b → base ≤ b ∧ v.ownBlock ≠ some b ∧ b < w.heap.size) (hn : ls.length < 1000000000) (hB : base ≤ w.heap.size) (ty : TypeId) :
    ∃ v' w', (Builtin.append_ #[52, 52] ty #[v, .slice (some ⟨g, 0, none⟩) 1 1]).run Try.prog w = .ok v' w' ∧ LstS w' base v' (ls ++ [l]) ∧ w.grownBy w' v.ownBlock ∧ (v'.ownBlock = v.ownBlock ∨ v'.ownBlock = some w.heap.size) := by
  obtain ⟨i0, hi, hz0, hz1, hz2⟩ := info_parts infoSs
  obtain ⟨vs, h1, h2⟩ := h
  obtain ⟨v', w', hrun, g2, g3, _, g5⟩ := run_append_own_at (P := Try.prog) w base 52 ty 25 i0 (.slice none 0 0) 1 24 Try.underlying52 hi hz0 hz1 hz2 rfl (by omega) v ls.length vs h1 ⟨g, 0, none⟩ 1 1 [.slice A n c] rfl (fun j u hj => by
    match j, hj with
    | 0, hj => simp at hj; subst hj; rw [add_plain]; exact hg) (fun u hu => by rw [List.mem_singleton.1 hu]; rfl) (by simp only [maxLen]; omega) (by omega) hB
  refine ⟨v', w', hrun, ⟨vs ++ [.slice A n c], by rw [List.length_append]; exact g2, ?_⟩, g3, g5⟩
  have f : Fr (fun k => v.ownBlock = some k) w w' := Fr.grown (F := fun k => v.ownBlock = some k) (Fr.refl _ w) g3 (fun k hk => .inl hk)
  have hne : ∀ b, b < w.heap.size → v.ownBlock ≠ some b → v'.ownBlock ≠ some b := fun b h1 h2 q => by
    rcases g5 with e | e
    · exact h2 (by rw [← e]; exact q)
    · rw [e] at q
      injection q with q
      omega
  refine ⟨by simp [h2.1], fun i x hx => ?_⟩
  by_cases hlt : i < ls.length
  · rw [List.getElem?_append_left hlt] at hx
    obtain ⟨u, q1, q2, q3⟩ := h2.2 i x hx
    exact ⟨u, by rw [List.getElem?_append_left (by rw [h2.1]; exact hlt)]; exact q1, q2.new f (fun b hb => (q3 b hb).2.1), fun b hb => ⟨(q3 b hb).1, hne b (q3 b hb).2.2 (q3 b hb).2.1, Nat.lt_of_lt_of_le (q3 b hb).2.2 f.size⟩⟩
  · have hi2 : i = ls.length := by
      have := (List.getElem?_eq_some_iff.1 hx).1
      simp at this
      omega
    subst hi2
    rw [List.getElem?_append_right (Nat.le_refl _), Nat.sub_self] at hx
    have hx2 : l = x := by simpa using hx
    subst hx2
    refine ⟨.slice A n c, by rw [List.getElem?_append_right (by rw [h2.1]; exact Nat.le_refl _), h2.1, Nat.sub_self]; rfl, hu.new f (fun b q => (hb b q).2.1), fun b q => ⟨(hb b q).1, hne b (hb b q).2.2 (hb b q).2.1, Nat.lt_of_lt_of_le (hb b q).2.2 f.size⟩⟩
end Go.Proofs.Ythffnepfnadakaa
