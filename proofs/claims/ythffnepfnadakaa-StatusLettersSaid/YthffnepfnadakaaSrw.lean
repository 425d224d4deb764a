/- Rows of statuses of one's own: append, store. -/
import Derived.Test.YthffnepfnadakaaSsa
import Derived.Great.BuildSlice
namespace Go.Proofs.Ythffnepfnadakaa
open Go.RowKit

theorem infoSt : (Try.prog.info? 22).map (fun i => (i.zero, i.size, i.bytes)) = some (some (.int .i64 0), 1, 8) := by kernel_rfl
/-- A list of numbers of one's own. -/
def RowS (w : World) (B : Nat) (v : Value) (l : List Int) : Prop := w.ownsRow B 22 1 v l.length (l.map (Value.int .i64))
theorem RowS.nil (w : World) (B : Nat) : RowS w B (.slice none 0 0) [] := World.ownsRow_nil _ _ _ _
theorem RowS.keep {w w' : World} {B : Nat} {v : Value} {l : List Int} (h : RowS w B v l) {F : Nat → Prop} (f : Fr F w w') (hF : ∀ k, v.ownBlock = some k → ¬ F k) : RowS w' B v l := own_keep h f hF
theorem RowS.keep0 {w w' : World} {B : Nat} {v : Value} {l : List Int} (h : RowS w B v l) (f : Fr (fun _ => False) w w') : RowS w' B v l := own_keep h f (fun _ _ q => q)
theorem RowS.low {w : World} {B k : Nat} {v : Value} {l : List Int} (h : RowS w B v l) (hk : v.ownBlock = some k) : B ≤ k := by
  obtain ⟨-, h | ⟨b, c, cs, rfl, h1, -⟩⟩ := h
  · obtain ⟨rfl, -⟩ := h
    cases hk
  · injection hk with hk
    subst hk
    exact h1
theorem RowS.cell {w : World} {B i : Nat} {v : Value} {l : List Int} {z : Int} (h : RowS w B v l) (hz : l[i]? = some z) : ∃ g cap, v = .slice (some ⟨g, 0, none⟩) l.length cap ∧ w.cell? ⟨g, i, none⟩ = some (.int .i64 z) := by
  have hu : (l.map (Value.int .i64))[i]? = some (.int .i64 z) := by rw [List.getElem?_map, hz]; rfl
  obtain ⟨h1, ⟨rfl, h0⟩ | ⟨g, cap, cur, rfl, hb, hg, hc1, hc2, hc3, hc4⟩⟩ := h
  · have : l = [] := List.length_eq_zero_iff.1 (by omega)
    rw [this] at hz
    cases hz
  · refine ⟨g, cap, rfl, ?_⟩
    have hi : i < l.length * 1 := by rw [Nat.mul_one]; exact (List.getElem?_eq_some_iff.1 hz).1
    rw [← hc4, List.getElem?_take_of_lt hi, Array.getElem?_toList] at hu
    rw [cell_of_row w g i cur _ _ hg]
    exact hu
theorem RowS.slice {w : World} {B : Nat} {v : Value} {l : List Int} (h : RowS w B v l) : ∃ A c, v = .slice A l.length c ∧ l.length ≤ maxLen := by
  obtain ⟨A, c, e, h1, h2⟩ := own_slice h
  exact ⟨A, c, e, by omega⟩
theorem RowS.frozen {w : World} {B i g n cap : Nat} {l : List Int} (h : RowS w B (.slice (some ⟨g, 0, none⟩) n cap) l) : w.frozen? ⟨g, i, none⟩ = false := by
  obtain ⟨h1, ⟨h0, _⟩ | ⟨g', cap', cur, e, hb, hg, _⟩⟩ := h
  · cases h0
  · injection e with e
    injection e with e
    injection e with e
    subst e
    simp [World.frozen?, hg]
theorem RowS.ints {w : World} {B : Nat} {v : Value} {l : List Int} (h : RowS w B v l) : IntsAt w v l := by
  obtain ⟨A, c, e, hl⟩ := h.slice
  refine ⟨A, c, e, hl, fun hp => ?_⟩
  obtain ⟨z, hz⟩ : ∃ z, l[0]? = some z := ⟨_, List.getElem?_eq_getElem hp⟩
  obtain ⟨g, cap, e2, _⟩ := h.cell hz
  rw [e] at e2
  injection e2 with e3
  subst e3
  refine ⟨g, 0, rfl, fun i z hi => ?_⟩
  obtain ⟨g', cap', e4, h4⟩ := h.cell hi
  rw [e] at e4
  injection e4 with e5
  injection e5 with e5
  injection e5 with e5
  rw [Nat.zero_add, e5]
  exact h4
theorem RowS.set {w : World} {B i g n cap : Nat} {l : List Int} (h : RowS w B (.slice (some ⟨g, 0, none⟩) n cap) l) (hi : i < l.length) (z : Int) : RowS (w.setCell ⟨g, i, none⟩ (.int .i64 z)) B (.slice (some ⟨g, 0, none⟩) n cap) (l.set i z) := by
  obtain ⟨h1, ⟨h0, _⟩ | ⟨g', cap', cur, e, hb, hg, hc1, hc2, hc3, hc4⟩⟩ := h
  · cases h0
  · obtain ⟨e1, e2, e3⟩ : g = g' ∧ n = l.length ∧ cap = cap' := by
      injection e with a b c
      injection a with a
      injection a with a
      exact ⟨a, b, c⟩
    subst e1 e3
    refine ⟨by simp, .inr ⟨g, cap, cur.setIfInBounds i (.int .i64 z), by simp [e2], hb, ?_, by simpa using hc1, hc2, by simpa using hc3, ?_⟩⟩
    · exact Blk.set_ (w := w) (g := g) (t := 22) (cs := cur) hg i (.int .i64 z)
    · rw [Array.toList_setIfInBounds, List.length_set, List.take_set, hc4, List.map_set]
theorem RowS.set' {w : World} {B i g : Nat} {v : Value} {l : List Int} (h : RowS w B v l) (hne : v.ownBlock ≠ some g) (z : Value) : RowS (w.setCell ⟨g, i, none⟩ z) B v l :=
  h.keep (F := fun k => k = g) ((Fr.refl (fun k => k = g) w).setCell (p := ⟨g, i, none⟩) (.inl rfl) z) (fun k hk e => hne (by rw [hk, e]))
theorem slice_of_st (u : Int) (w : World) : (Instr.buildSlice 25 1 #[(0, .int .i64 u)]).run Try.prog w = .ok (.slice (some ⟨w.heap.size, 0, none⟩) 1 1) (w.alloc (.cells #[.int .i64 u] 22)) := by
  obtain ⟨i0, hi, hz0, hz1, hz2⟩ := info_parts infoSt
  refine run_buildSlice w 25 22 1 _ _ i0 _ Try.underlying25 hi hz0 (by rw [hz1]; omega) (by rw [hz1]; omega) ?_
  rw [hz1]
  have hb : ((Array.range (1 * 1)).map ((Value.int .i64 0).cells[· % (Value.int .i64 0).cells.size]!)) = #[Value.int .i64 0] := by
    apply Array.ext
    · simp
    · intro i h1 h2
      simp at h1
      simp [Value.cells, h1]
  rw [hb]
  simp [Instr.fill, Value.cells]
section
variable {ops : Array Oper} {o : Oper} {a : Act} {Q : Exit → Act → World → Prop}
set_option maxRecDepth 100000 in
theorem wpList_push_st {rest : List Oper} {w : World} (hg : o.guard = none) (s x : Operand) (hop : o.op = Op.call { callee := Callee.builtin Builtin.append, args := #[s, x], argTypes := #[25, 25] }) {v : Value} {base : Nat} {l : List Int} (hs : a.eval s = v)
    (hown : RowS w base v l) {g : Nat} {u : Int} (hx : a.eval x = .slice (some ⟨g, 0, none⟩) 1 1) (hu : w.cell? ⟨g, 0, none⟩ = some (.int .i64 u)) (hn : l.length ≤ 100000) (hb : base ≤ w.heap.size)
    (hK : ∀ v' w', RowS w' base v' (l ++ [u]) → w.grownBy w' v.ownBlock → (v'.ownBlock = v.ownBlock ∨ v'.ownBlock = some w.heap.size) → wpList Try.prog ops Q rest (a.put o.dst v') w') : wpList Try.prog ops Q (o :: rest) a w := by
  refine wpList_plain hg fun K' hK' => ?_
  obtain ⟨i0, hi, hz0, hz1, hz2⟩ := info_parts infoSt
  obtain ⟨v', w', hrun, ho', hgr, _, hat⟩ := run_append_own_at (P := Try.prog) w base 25 o.type 22 i0 (.int .i64 0) 1 8 Try.underlying25 hi hz0 hz1 hz2 rfl (by omega) v l.length (l.map (Value.int .i64)) hown ⟨g, 0, none⟩ 1 1 [.int .i64 u] rfl (fun j q hj => by
      cases j with
      | zero => simp at hj; subst hj; rw [add_plain]; exact hu
      | succ j => simp at hj) (fun q hq => by rw [List.mem_singleton.1 hq]; rfl) (by simp only [maxLen]; omega) (by omega) hb
  unfold Oper.wp
  simp [execOp, hop, resolve, invoke, builtin, hs, hx, hrun, Result.andThen]
  refine hK' _ _ (hK v' w' ?_ hgr hat)
  unfold RowS
  rw [List.length_append, List.map_append]
  exact ho'
end
end Go.Proofs.Ythffnepfnadakaa
