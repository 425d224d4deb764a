/- A queue of statuses of one's own: taken from its head, put on at its end. -/
import Derived.Test.YthffnepfnadakaaSrw
import Derived.ArgAppend
namespace Go.Proofs.Ythffnepfnadakaa
open Go.RowKit

/-- What is left of a row of one's own, from some place on. -/
def QuS (w : World) (B : Nat) (v : Value) (l : List Int) : Prop :=
  ∃ g off cap cur, v = .slice (some ⟨g, off, none⟩) l.length cap ∧ B ≤ g ∧ Blk w g 22 cur ∧ l.length ≤ cap ∧ cap ≤ maxLen ∧ cur.size = off + cap ∧ ∀ (i : Nat) (z : Int), l[i]? = some z → cur[off + i]? = some (.int .i64 z)
theorem QuS.new {w : World} {B g : Nat} (z : Int) (hB : B ≤ g) (hb : Blk w g 22 #[.int .i64 z]) : QuS w B (.slice (some ⟨g, 0, none⟩) 1 1) [z] :=
  ⟨g, 0, 1, _, rfl, hB, hb, by simp, by simp [maxLen], rfl, fun i x hi => by
    cases i with
    | zero => simp at hi; subst hi; rfl
    | succ i => simp at hi⟩
theorem QuS.keep {w w' : World} {B : Nat} {v : Value} {l : List Int} {F : Nat → Prop} (h : QuS w B v l) (f : Fr F w w') (hF : ∀ k, v.ownBlock = some k → ¬ F k) : QuS w' B v l := by
  obtain ⟨g, off, cap, cur, rfl, h1, h2, h3⟩ := h
  exact ⟨g, off, cap, cur, rfl, h1, (f.block g h2.lt (hF g rfl)).trans h2, h3⟩
theorem QuS.keep0 {w w' : World} {B : Nat} {v : Value} {l : List Int} (h : QuS w B v l) (f : Fr (fun _ => False) w w') : QuS w' B v l := h.keep f (fun _ _ q => q)
theorem QuS.low {w : World} {B k : Nat} {v : Value} {l : List Int} (h : QuS w B v l) (hk : v.ownBlock = some k) : B ≤ k ∧ k < w.heap.size := by
  obtain ⟨g, off, cap, cur, rfl, h1, h2, h3⟩ := h
  injection hk with hk
  subst hk
  exact ⟨h1, h2.lt⟩
theorem QuS.head {w : World} {B : Nat} {v : Value} {z : Int} {l : List Int} (h : QuS w B v (z :: l)) : ∃ p n c, v = .slice (some p) n c ∧ n = l.length + 1 ∧ p.spot = none ∧ w.cell? p = some (.int .i64 z) := by
  obtain ⟨g, off, cap, cur, rfl, h1, h2, h3, h4, h5, h6⟩ := h
  refine ⟨_, _, _, rfl, rfl, rfl, ?_⟩
  rw [cell_of_row w g off cur _ _ h2]
  have := h6 0 z rfl
  rwa [Nat.add_zero] at this
/-- 'q[1:]'. -/
theorem QuS.tail {w : World} {B : Nat} {v : Value} {z : Int} {l : List Int} (h : QuS w B v (z :: l)) :
    ∃ v', (∀ W, (Instr.slice 25 v (some (.int .i64 1)) none none).run Try.prog W = .ok v' W) ∧ (∃ A c, v' = .slice A l.length c) ∧ (l ≠ [] → QuS w B v' l) := by
  obtain ⟨g, off, cap, cur, rfl, h1, h2, h3, h4, h5, h6⟩ := h
  obtain ⟨i0, hi, hz0, hz1, hz2⟩ := info_parts infoSt
  have hz : ∀ w, (sizeOf 22).run Try.prog w = .ok 1 w := fun w => by simp [sizeOf, typeInfo, hi, hz1]
  rw [List.length_cons] at h3
  refine ⟨.slice (if cap = 1 then some ⟨g, off, none⟩ else some ⟨g, off + 1, none⟩) l.length (cap - 1), fun W => ?_, ⟨_, _, rfl⟩, fun hl => ?_⟩
  · rw [run_slice_l W 25 _ _ cap Try.underlying25 .i64 1 (by omega) (by simp; omega), show Try.prog.elem 25 = 22 from by kernel_rfl, hz]
    simp [Result.andThen, sliced, Addr.add]
  · have hlp : 0 < l.length := List.length_pos_iff.2 hl
    rw [if_neg (by omega)]
    refine ⟨g, off + 1, cap - 1, cur, rfl, h1, h2, by omega, by omega, by omega, fun i x hx => ?_⟩
    have := h6 (i + 1) x (by rw [List.getElem?_cons_succ]; exact hx)
    rw [← this]
    congr 1
    omega
section
variable {ops : Array Oper} {o : Oper} {a : Act} {Q : Exit → Act → World → Prop}
set_option maxRecDepth 100000 in
theorem wpList_push_qu {rest : List Oper} {w : World} (hg : o.guard = none) (s x : Operand) (hop : o.op = Op.call { callee := Callee.builtin Builtin.append, args := #[s, x], argTypes := #[25, 25] }) {v : Value} {base : Nat} {l : List Int} (hs : a.eval s = v)
    (hown : QuS w base v l) {g : Nat} {u : Int} (hx : a.eval x = .slice (some ⟨g, 0, none⟩) 1 1) (hu : w.cell? ⟨g, 0, none⟩ = some (.int .i64 u)) (hn : l.length ≤ 100000) (hb : base ≤ w.heap.size)
    (hK : ∀ v' w', QuS w' base v' (l ++ [u]) → w.grownBy w' v.ownBlock → (v'.ownBlock = v.ownBlock ∨ ∃ k, v'.ownBlock = some k ∧ w.heap.size ≤ k) → wpList Try.prog ops Q rest (a.put o.dst v') w') : wpList Try.prog ops Q (o :: rest) a w := by
  obtain ⟨i0, hi, hz0, hz1, hz2⟩ := info_parts infoSt
  obtain ⟨b, off, cap, cur, rfl, h1, h2, h3, h4, h5, h6⟩ := hown
  refine wpList_append_arg w hg s x 25 hop 22 i0 (.int .i64 0) 1 8 Try.underlying25 hi hz0 hz1 hz2 rfl (by omega) b off l.length cap (l.map (Value.int .i64)) hs (by simp) ?_ ⟨g, 0, none⟩ 1 1 [.int .i64 u] hx rfl ?_ (fun q hq => by rw [List.mem_singleton.1 hq]; rfl) ?_ (by simp only [maxLen]; omega) (by omega) ?_ ?_
  · intro j q hj
    rw [cell_of_row w b (off + j) cur _ _ h2]
    rw [List.getElem?_map] at hj
    cases hz : l[j]? with
    | none => rw [hz] at hj; cases hj
    | some z =>
      rw [hz] at hj
      injection hj with hj
      rw [← hj]
      exact h6 j z hz
  · intro j q hj
    cases j with
    | zero => simp at hj; subst hj; rw [add_plain]; exact hu
    | succ j => simp at hj
  · intro hr j hj
    have hj0 : j = 0 := by simpa using hj
    subst hj0
    rw [cell_of_row w b _ cur _ _ h2]
    have hlt : off + l.length * 1 + 0 < cur.size := by omega
    refine ⟨by rw [Array.getElem?_eq_getElem hlt]; rfl, ?_⟩
    have h2' : w.heap[b]? = some (.cells cur 22 (0, 0)) := h2
    simp [World.frozen?, h2']
  · intro hr
    refine hK _ _ ?_ ?_ (Or.inl rfl)
    · refine ⟨b, off, cap, cur.setIfInBounds (off + l.length * 1) (.int .i64 u), by simp, h1, Blk.set_ h2 _ _, by rw [List.length_append]; simpa using hr, h4, by simpa using h5, fun i z hiz => ?_⟩
      rw [List.getElem?_append] at hiz
      split at hiz
      · rename_i hlt
        rw [Array.getElem?_setIfInBounds_ne (by omega)]
        exact h6 i z hiz
      · rename_i hge
        have hi0 : i - l.length = 0 := by
          rcases Nat.eq_zero_or_pos (i - l.length) with e | e
          · exact e
          · rw [List.getElem?_eq_none (by simp; omega)] at hiz
            cases hiz
        rw [hi0] at hiz
        injection hiz with hiz
        subst hiz
        rw [show off + i = off + l.length * 1 by omega, Array.getElem?_setIfInBounds_self_of_lt (by omega)]
    · refine ⟨rfl, rfl, rfl, by simp [World.setCells, World.setCell], fun k hk hne => ?_⟩
      have hkb : k ≠ b := fun e => hne (by rw [e]; rfl)
      simp only [World.setCells]
      exact Below.heap_setCell _ _ _ _ (fun e => hkb e)
  · intro hr v' w' ho hgr
    obtain ⟨hl2, ⟨rfl, h0⟩ | ⟨g', cap', cur', rfl, hb', hg', hc1, hc2, hc3, hc4⟩⟩ := ho
    · omega
    · refine hK _ _ ?_ ⟨hgr.os, hgr.tape, hgr.output, hgr.size, fun k hk _ => hgr.block k hk (by simp)⟩ ?_
      · refine ⟨g', 0, cap', cur', by simp, Nat.le_trans hb hb', hg', by rw [List.length_append]; exact hc1, hc2, by omega, fun i z hiz => ?_⟩
        have hlt : i < l.length + 1 := by have := (List.getElem?_eq_some_iff.1 hiz).1; rw [List.length_append] at this; simpa using this
        have hm : (l.map (Value.int .i64) ++ [Value.int .i64 u])[i]? = some (.int .i64 z) := by
          rw [show l.map (Value.int .i64) ++ [Value.int .i64 u] = (l ++ [u]).map (Value.int .i64) by simp, List.getElem?_map, hiz]
          rfl
        rw [← hc4, List.getElem?_take_of_lt (by omega), Array.getElem?_toList] at hm
        rw [Nat.zero_add]
        exact hm
      · exact Or.inr ⟨g', rfl, hb'⟩
end
end Go.Proofs.Ythffnepfnadakaa
