/- Lists of numbers of one's own, at int; three of them; how often a place is named. -/
import Derived.Test.YtfonchobolhkoaaDoorFl1
namespace Go.Proofs.YtfonchobolhkoaaDoor
open Go.RowKit

theorem infoN64 : (Tryd.prog.info? 3).map (fun i => (i.zero, i.size, i.bytes)) = some (some (.int .i64 0), 1, 8) := by kernel_rfl
/-- A list of numbers of one's own. -/
def RowN (w : World) (B : Nat) (v : Value) (l : List Int) : Prop := w.ownsRow B 3 1 v l.length (l.map (Value.int .i64))
theorem RowN.nil (w : World) (B : Nat) : RowN w B (.slice none 0 0) [] := World.ownsRow_nil _ _ _ _
theorem RowN.keep {w w' : World} {B : Nat} {v : Value} {l : List Int} (h : RowN w B v l) {F : Nat → Prop} (f : Fr F w w') (hF : ∀ k, v.ownBlock = some k → ¬ F k) : RowN w' B v l := own_keep h f hF
theorem RowN.keep0 {w w' : World} {B : Nat} {v : Value} {l : List Int} (h : RowN w B v l) (f : Fr (fun _ => False) w w') : RowN w' B v l := own_keep h f (fun _ _ q => q)
theorem RowN.low {w : World} {B k : Nat} {v : Value} {l : List Int} (h : RowN w B v l) (hk : v.ownBlock = some k) : B ≤ k := by
  obtain ⟨-, h | ⟨b, c, cs, rfl, h1, -⟩⟩ := h
  · obtain ⟨rfl, -⟩ := h
    cases hk
  · injection hk with hk
    subst hk
    exact h1
theorem RowN.cell {w : World} {B i : Nat} {v : Value} {l : List Int} {z : Int} (h : RowN w B v l) (hz : l[i]? = some z) : ∃ g cap, v = .slice (some ⟨g, 0, none⟩) l.length cap ∧ w.cell? ⟨g, i, none⟩ = some (.int .i64 z) := by
  have hu : (l.map (Value.int .i64))[i]? = some (.int .i64 z) := by rw [List.getElem?_map, hz]; rfl
  obtain ⟨h1, ⟨rfl, h0⟩ | ⟨g, cap, cur, rfl, hb, hg, hc1, hc2, hc3, hc4⟩⟩ := h
  · have : l = [] := List.length_eq_zero_iff.1 (by omega)
    rw [this] at hz
    cases hz
  · refine ⟨g, cap, rfl, ?_⟩
    have hi : i < l.length * 1 := by rw [Nat.mul_one]; exact (List.getElem?_eq_some_iff.1 hz).1
    rw [← hc4, List.getElem?_take_of_lt hi, Array.getElem?_toList] at hu
    rw [cell_of_row w g i cur _ _ hg]
    exact hu
theorem RowN.slice {w : World} {B : Nat} {v : Value} {l : List Int} (h : RowN w B v l) : ∃ A c, v = .slice A l.length c ∧ l.length ≤ maxLen := by
  obtain ⟨A, c, e, h1, h2⟩ := own_slice h
  exact ⟨A, c, e, by omega⟩
theorem RowN.frozen {w : World} {B i g n cap : Nat} {l : List Int} (h : RowN w B (.slice (some ⟨g, 0, none⟩) n cap) l) : w.frozen? ⟨g, i, none⟩ = false := by
  obtain ⟨h1, ⟨h0, _⟩ | ⟨g', cap', cur, e, hb, hg, _⟩⟩ := h
  · cases h0
  · injection e with e
    injection e with e
    injection e with e
    subst e
    simp [World.frozen?, hg]
theorem RowN.ints {w : World} {B : Nat} {v : Value} {l : List Int} (h : RowN w B v l) : IntsAt w v l := by
  obtain ⟨A, c, e, hl⟩ := h.slice
  refine ⟨A, c, e, hl, fun hp => ?_⟩
  obtain ⟨z, hz⟩ : ∃ z, l[0]? = some z := ⟨_, List.getElem?_eq_getElem hp⟩
  obtain ⟨g, cap, e2, _⟩ := h.cell hz
  rw [e] at e2
  injection e2 with e3
  subst e3
  refine ⟨g, 0, rfl, fun i z hi => ?_⟩
  obtain ⟨g', cap', e4, h4⟩ := h.cell hi
  rw [e] at e4
  injection e4 with e5
  injection e5 with e5
  injection e5 with e5
  rw [Nat.zero_add, e5]
  exact h4
theorem RowN.set {w : World} {B i g n cap : Nat} {l : List Int} (h : RowN w B (.slice (some ⟨g, 0, none⟩) n cap) l) (hi : i < l.length) (z : Int) : RowN (w.setCell ⟨g, i, none⟩ (.int .i64 z)) B (.slice (some ⟨g, 0, none⟩) n cap) (l.set i z) := by
  obtain ⟨h1, ⟨h0, _⟩ | ⟨g', cap', cur, e, hb, hg, hc1, hc2, hc3, hc4⟩⟩ := h
  · cases h0
  · obtain ⟨e1, e2, e3⟩ : g = g' ∧ n = l.length ∧ cap = cap' := by
      injection e with a b c
      injection a with a
      injection a with a
      exact ⟨a, b, c⟩
    subst e1 e3
    refine ⟨by simp, .inr ⟨g, cap, cur.setIfInBounds i (.int .i64 z), by simp [e2], hb, ?_, by simpa using hc1, hc2, by simpa using hc3, ?_⟩⟩
    · exact Blk.set_ (w := w) (g := g) (t := 3) (cs := cur) hg i (.int .i64 z)
    · rw [Array.toList_setIfInBounds, List.length_set, List.take_set, hc4, List.map_set]
theorem RowN.set' {w : World} {B i g : Nat} {v : Value} {l : List Int} (h : RowN w B v l) (hne : v.ownBlock ≠ some g) (z : Value) : RowN (w.setCell ⟨g, i, none⟩ z) B v l :=
  h.keep (F := fun k => k = g) ((Fr.refl (fun k => k = g) w).setCell (p := ⟨g, i, none⟩) (.inl rfl) z) (fun k hk e => hne (by rw [hk, e]))
theorem slice_of_int (u : Int) (w : World) : (Instr.buildSlice 35 1 #[(0, .int .i64 u)]).run Tryd.prog w = .ok (.slice (some ⟨w.heap.size, 0, none⟩) 1 1) (w.alloc (.cells #[.int .i64 u] 3)) := by
  obtain ⟨i0, hi, hz0, hz1, hz2⟩ := info_parts infoN64
  refine run_buildSlice w 35 3 1 _ _ i0 _ Tryd.underlying35 hi hz0 (by rw [hz1]; omega) (by rw [hz1]; omega) ?_
  rw [hz1]
  have hb : ((Array.range (1 * 1)).map ((Value.int .i64 0).cells[· % (Value.int .i64 0).cells.size]!)) = #[Value.int .i64 0] := by
    apply Array.ext
    · simp
    · intro i h1 h2
      simp at h1
      simp [Value.cells, h1]
  rw [hb]
  simp [Instr.fill, Value.cells]
section
variable {ops : Array Oper} {o : Oper} {a : Act} {Q : Exit → Act → World → Prop}
set_option maxRecDepth 100000 in
theorem wpList_push_int {rest : List Oper} {w : World} (hg : o.guard = none) (s x : Operand) (hop : o.op = Op.call { callee := Callee.builtin Builtin.append, args := #[s, x], argTypes := #[35, 35] }) {v : Value} {base : Nat} {l : List Int} (hs : a.eval s = v)
    (hown : RowN w base v l) {g : Nat} {u : Int} (hx : a.eval x = .slice (some ⟨g, 0, none⟩) 1 1) (hu : w.cell? ⟨g, 0, none⟩ = some (.int .i64 u)) (hn : l.length ≤ 100000) (hb : base ≤ w.heap.size)
    (hK : ∀ v' w', RowN w' base v' (l ++ [u]) → w.grownBy w' v.ownBlock → (v'.ownBlock = v.ownBlock ∨ v'.ownBlock = some w.heap.size) → wpList Tryd.prog ops Q rest (a.put o.dst v') w') : wpList Tryd.prog ops Q (o :: rest) a w := by
  refine wpList_plain hg fun K' hK' => ?_
  obtain ⟨i0, hi, hz0, hz1, hz2⟩ := info_parts infoN64
  obtain ⟨v', w', hrun, ho', hgr, _, hat⟩ := run_append_own_at (P := Tryd.prog) w base 35 o.type 3 i0 (.int .i64 0) 1 8 Tryd.underlying35 hi hz0 hz1 hz2 rfl (by omega) v l.length (l.map (Value.int .i64)) hown ⟨g, 0, none⟩ 1 1 [.int .i64 u] rfl (fun j q hj => by
      cases j with
      | zero => simp at hj; subst hj; rw [add_plain]; exact hu
      | succ j => simp at hj) (fun q hq => by rw [List.mem_singleton.1 hq]; rfl) (by simp only [maxLen]; omega) (by omega) hb
  unfold Oper.wp
  simp [execOp, hop, resolve, invoke, builtin, hs, hx, hrun, Result.andThen]
  refine hK' _ _ (hK v' w' ?_ hgr hat)
  unfold RowN
  rw [List.length_append, List.map_append]
  exact ho'
end

theorem rowIN {w : World} {B B' j : Nat} {v u : Value} {l k : List Int} (h : RowI w B v l) (g : RowN w B' u k) (hj : v.ownBlock = some j) : u.ownBlock ≠ some j := by
  obtain ⟨-, ⟨rfl, -⟩ | ⟨b, c, cs, rfl, _, hb, -⟩⟩ := h
  · cases hj
  · injection hj with hj
    subst hj
    exact own_ne g hb (by decide)
/-- How many cells a list of lists is long. -/
theorem count_sum (ps : List Int) : ∀ n, sumN ((List.range n).map (fun (i : Nat) => ps.count (i : Int))) ≤ ps.length := by
  induction ps with
  | nil => intro n; induction n with
    | zero => simp
    | succ n ih => rw [List.range_succ, List.map_append, sumN_app]; simp at ih ⊢; exact ih
  | cons p ps ih =>
    intro n
    have h1 : ∀ n, sumN ((List.range n).map (fun (i : Nat) => (p :: ps).count (i : Int))) = sumN ((List.range n).map (fun (i : Nat) => ps.count (i : Int))) + sumN ((List.range n).map (fun (i : Nat) => if p = (i : Int) then 1 else 0)) := by
      intro n
      induction n with
      | zero => rfl
      | succ n ih =>
        rw [List.range_succ, List.map_append, List.map_append, List.map_append, sumN_app, sumN_app, sumN_app, ih]
        simp only [List.map_cons, List.map_nil, sumN_cons, sumN_nil, List.count_cons, beq_iff_eq]
        omega
    have h2 : ∀ n, sumN ((List.range n).map (fun (i : Nat) => if p = (i : Int) then 1 else 0)) ≤ 1 ∧ (sumN ((List.range n).map (fun (i : Nat) => if p = (i : Int) then 1 else 0)) = 1 → p < (n : Int)) := by
      intro n
      induction n with
      | zero => simp
      | succ n ih =>
        rw [List.range_succ, List.map_append, sumN_app]
        simp only [List.map_cons, List.map_nil, sumN_cons, sumN_nil]
        by_cases q : p = (n : Int)
        · rw [if_pos q]
          constructor
          · by_cases q2 : sumN ((List.range n).map (fun (i : Nat) => if p = (i : Int) then 1 else 0)) = 1
            · have := ih.2 q2; omega
            · have := ih.1; omega
          · intro _; omega
        · rw [if_neg q]
          exact ⟨by have := ih.1; omega, fun h => by have := ih.2 (by omega); omega⟩
    rw [h1]
    have := ih n
    have := (h2 n).1
    simp only [List.length_cons]
    omega
theorem withL_length {α : Type} (d : α) (g : Nat → α) (z : Nat → Nat) : ∀ n, (withL d g z n).length = n + sumN ((List.range n).map z)
  | 0 => rfl
  | n + 1 => by
    rw [withL, List.length_append, withL_length d g z n, List.range_succ, List.map_append, sumN_app]
    simp
    omega
theorem fromL_eq {α : Type} (d : α) (g : Nat → α) (z : Nat → Nat) : ∀ k, (withL d g z k).length + z k = fromL z k
  | 0 => by simp [withL, fromL]
  | k + 1 => by rw [withL_len]; simp [fromL]
theorem may_up {l : List Nat} (h : ∀ x ∈ l, x ≤ 1000000000000) (hs : 0 < sumN l) : mayW (upI l) = true := by
  unfold mayW
  rw [Bool.and_eq_true, List.all_eq_true, List.any_eq_true]
  refine ⟨fun z hz => ?_, ?_⟩
  · obtain ⟨x, hx, rfl⟩ := List.mem_map.1 hz
    have := h x hx
    exact decide_eq_true (by omega)
  · apply Decidable.byContradiction
    intro hn
    have : sumN l = 0 := by
      clear hs h
      induction l with
      | nil => rfl
      | cons a l ih =>
        have ha : a = 0 := by
          apply Decidable.byContradiction
          intro q
          exact hn ⟨(a : Int), by simp, decide_eq_true (by omega)⟩
        have := ih (fun ⟨z, hz, hp⟩ => hn ⟨z, by simp only [upI, List.map_cons, List.mem_cons]; exact .inr hz, hp⟩)
        simp [ha, this]
    omega
theorem up_nat (l : List Nat) : (upI l).map Int.toNat = l := by
  unfold upI
  rw [List.map_map]
  conv => rhs; rw [← List.map_id l]
  apply List.map_congr_left
  intro y _
  simp
end Go.Proofs.YtfonchobolhkoaaDoor
