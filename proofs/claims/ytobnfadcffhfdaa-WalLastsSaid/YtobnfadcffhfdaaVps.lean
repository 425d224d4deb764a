/- Lists of records grow: append of one, and a copy of all. -/
import Derived.Test.YtobnfadcffhfdaaVro
import Derived.Deep.LoopGhost
namespace Go.Proofs.Ytobnfadcffhfdaa
open Go.RowKit

theorem RcsV.nil (w : World) (base : Nat) : RcsV w base (.slice none 0 0) [] := ⟨[], World.ownsRow_nil _ _ _ _, rfl, fun i u r hu => by simp at hu⟩
theorem RcsV.stay {F : Nat → Prop} {w w' : World} {base : Nat} {v : Value} {rs : List (List Chg)} (h : RcsV w base v rs) (f : Fr F w w') (hF : ∀ b, base ≤ b → ¬ F b) : RcsV w' base v rs := by
  obtain ⟨vs, h1, h2, h3⟩ := h
  refine ⟨vs, own_keep h1 f (fun k hk => hF k (own_low h1 hk)), h2, fun i u r hu hr => ?_⟩
  obtain ⟨q1, q2⟩ := h3 i u r hu hr
  refine ⟨q1.keep f (fun b hb => hF b (q2 b hb).1), fun b hb => ?_⟩
  obtain ⟨j1, cs, j2⟩ := q2 b hb
  exact ⟨j1, cs, j2.keep f (hF b j1)⟩
theorem RcsV.form {w : World} {base : Nat} {v : Value} {rs : List (List Chg)} (h : RcsV w base v rs) : ∃ A c, v = .slice A rs.length c ∧ rs.length ≤ c := by
  obtain ⟨vs, h1, h2, _⟩ := h
  obtain ⟨A, c, e, q1, _⟩ := own_slice h1
  exact ⟨A, c, by rw [e, h2], by omega⟩
theorem RcsV.push {w : World} {base : Nat} {v : Value} {A : Option Addr} {k c : Nat} {rs : List (List Chg)} {r : List Chg} (h : RcsV w base v rs) (hu : RcV w (.slice A k c) r) (hub : ∀ b, (Value.slice A k c).ownBlock = some b → base ≤ b ∧ ∃ cs, Blk w b 84 cs) (hN : rs.length ≤ 1000) (hb : base ≤ w.heap.size) (ty : TypeId) :
    ∃ v' w', (Builtin.append_ #[49, 49] ty #[v, .slice (some ⟨w.heap.size, 0, none⟩) 1 1]).run Try.prog (w.alloc (.cells #[.slice A k c] 25)) = .ok v' w' ∧ RcsV w' base v' (rs ++ [r]) ∧ Fr (fun b => v.ownBlock = some b) w w' := by
  obtain ⟨vs, ho, hl, hel⟩ := h
  obtain ⟨i0, hi, hz0, hz1, hz2⟩ := info_parts infoRec
  have hb0 := Blk.new w 25 #[.slice A k c]
  have fW : Fr (fun _ => False) w (w.alloc (.cells #[.slice A k c] 25)) := (Fr.refl _ w).alloc _
  obtain ⟨v', w', hrun, ho', hg, _, hat⟩ := run_append_own_at (P := Try.prog) (w.alloc (.cells #[.slice A k c] 25)) base 49 ty 25 i0 (.slice none 0 0) 1 24 Try.underlying49 hi hz0 hz1 hz2 rfl (by omega) v vs.length vs (own_keep ho fW (fun _ _ q => q)) ⟨w.heap.size, 0, none⟩ 1 1 [.slice A k c] rfl
    (fun j u hj => by
      rw [Addr.add_mid, Nat.zero_add, hb0.cell]
      simpa using hj) (fun u hu => by rw [List.mem_singleton.1 hu]; rfl) (by simp only [maxLen]; omega) (by omega) (by simp only [World.size_alloc]; omega)
  have f' : Fr (fun b => v.ownBlock = some b) w w' := (fW.mono (fun _ _ q => q.elim)).grown hg (fun j e => .inl e)
  have key : ∀ {u : Value} {x : List Chg}, RcV w u x → (∀ b, u.ownBlock = some b → base ≤ b ∧ ∃ cs, Blk w b 84 cs) → RcV w' u x ∧ ∀ b, u.ownBlock = some b → base ≤ b ∧ ∃ cs, Blk w' b 84 cs := fun q1 q2 => by
    refine ⟨q1.keep f' (fun b hb e => ?_), fun b hb => ?_⟩
    · obtain ⟨_, cs, j⟩ := q2 b hb
      exact own_ne ho j (by decide) e
    · obtain ⟨j1, cs, j2⟩ := q2 b hb
      exact ⟨j1, cs, j2.keep f' (fun e => own_ne ho j2 (by decide) e)⟩
  refine ⟨v', w', hrun, ⟨vs ++ [.slice A k c], by rw [List.length_append]; exact ho', by simp [hl], fun i u x hu' hx => ?_⟩, f'⟩
  by_cases hi' : i < vs.length
  · rw [List.getElem?_append_left hi'] at hu'
    rw [List.getElem?_append_left (by omega)] at hx
    obtain ⟨q1, q2⟩ := hel i u x hu' hx
    exact key q1 q2
  · have hiv : i = vs.length := by
      have := (List.getElem?_eq_some_iff.1 hu').1
      simp at this
      omega
    subst hiv
    rw [List.getElem?_append_right (Nat.le_refl _), Nat.sub_self] at hu'
    rw [hl, List.getElem?_append_right (Nat.le_refl _), Nat.sub_self] at hx
    have e1 : u = .slice A k c := by simpa using hu'.symm
    have e2 : x = r := by simpa using hx.symm
    subst e1 e2
    exact key hu hub

/-- A copy of all: append to nothing. -/
theorem RcsV.copy {w : World} {base : Nat} {v : Value} {rs : List (List Chg)} (h : RcsV w base v rs) (hN : rs.length ≤ 1000) (hb : base ≤ w.heap.size) (ty : TypeId) :
    ∃ v' w', (Builtin.append_ #[49, 49] ty #[.slice none 0 0, v]).run Try.prog w = .ok v' w' ∧ RcsV w' base v' rs ∧ Fr (fun _ => False) w w' ∧ ∀ b, v'.ownBlock = some b → w.heap.size ≤ b := by
  obtain ⟨vs, ho, hl, hel⟩ := h
  obtain ⟨i0, hi, hz0, hz1, hz2⟩ := info_parts infoRec
  have key : ∀ {w' : World}, Fr (fun _ => False) w w' → ∀ (i : Nat) (u : Value) (r : List Chg), vs[i]? = some u → rs[i]? = some r → RcV w' u r ∧ ∀ b, u.ownBlock = some b → base ≤ b ∧ ∃ cs, Blk w' b 84 cs := fun f i u r hu hr => by
    obtain ⟨q1, q2⟩ := hel i u r hu hr
    refine ⟨q1.keep f (fun _ _ q => q), fun b hb' => ?_⟩
    obtain ⟨j1, cs, j2⟩ := q2 b hb'
    exact ⟨j1, cs, j2.keep f (fun q => q)⟩
  rcases ho.2 with ⟨q1, q2⟩ | ⟨g, cap, cur, q1, hge, hbk, hn, hc, hsz, hcur⟩
  · subst q1
    have hr : (Builtin.append_ #[49, 49] ty #[.slice none 0 0, .slice none 0 0]).run Try.prog w = .ok (.slice none 0 0) w := by
      kernel_rfl
    have e0 : vs = [] := List.length_eq_zero_iff.1 q2
    refine ⟨_, w, hr, ⟨vs, ho, hl, hel⟩, Fr.refl _ _, fun b hb' => by simp [Value.ownBlock] at hb'⟩
  · have hone : ∀ u ∈ vs, u.oneCell' = true := fun u hu => by
      obtain ⟨i, hi, e⟩ := List.getElem_of_mem hu
      obtain ⟨⟨A, cp, e1, _⟩, _⟩ := hel i u rs[i] (by rw [← e]; exact List.getElem?_eq_getElem hi) (List.getElem?_eq_getElem (by omega))
      rw [e1]
      rfl
    have hne : ∀ j u, vs[j]? = some u → w.cell? ((⟨g, 0, none⟩ : Addr).add j) = some u := fun j u hj => by
      have hjl : j < vs.length := (List.getElem?_eq_some_iff.1 hj).1
      have hb0 : Blk w g 25 cur := hbk
      rw [Addr.add_mid, Nat.zero_add, hb0.cell]
      rw [← hcur, List.getElem?_take_of_lt (by omega)] at hj
      simpa using hj
    obtain ⟨v', w', hrun, ho', hg, hiff, hat⟩ := run_append_own_at (P := Try.prog) w base 49 ty 25 i0 (.slice none 0 0) 1 24 Try.underlying49 hi hz0 hz1 hz2 rfl (by omega) (.slice none 0 0) 0 [] (World.ownsRow_nil _ _ _ _) ⟨g, 0, none⟩ vs.length cap vs (by omega) hne hone (by simp only [maxLen]; omega) (by omega) hb
    have f' : Fr (fun _ => False) w w' := ((Fr.refl (fun _ => False) w).grown hg (fun j e => by simp [Value.ownBlock] at e))
    rw [← q1] at hrun
    refine ⟨v', w', hrun, ⟨vs, by simpa using ho', hl, key f'⟩, f', fun b hb' => ?_⟩
    rcases hat with e | e
    · rw [e] at hb'
      simp [Value.ownBlock] at hb'
    · rw [e] at hb'
      injection hb' with hb'
      omega
section
variable {ops : Array Oper} {o : Oper} {a : Act} {Q : Exit → Act → World → Prop}
theorem wpList_one_rec {rest : List Oper} {w : World} (hg : o.guard = none) (x : Operand) (hop : o.op = .buildSlice 49 1 #[(0, x)]) {A : Option Addr} {k c : Nat} (hx : a.eval x = .slice A k c)
    (hK : wpList Try.prog ops Q rest (a.put o.dst (.slice (some ⟨w.heap.size, 0, none⟩) 1 1)) (w.alloc (.cells #[.slice A k c] 25))) : wpList Try.prog ops Q (o :: rest) a w := by
  refine wpList_plain hg fun K hK' => ?_
  have hr := slice_of_rec A k c w
  unfold Oper.wp execOp
  simp only [hop, Array.map, hx]
  simp [hr, hx, Result.andThen]
  exact hK' _ _ hK
theorem wpList_push_rec {rest : List Oper} {w W : World} (hg : o.guard = none) (s x : Operand) (hop : o.op = Op.call { callee := Callee.builtin Builtin.append, args := #[s, x], argTypes := #[49, 49] }) {v y : Value} (hs : a.eval s = v) (hx : a.eval x = y) {v' : Value} {w' : World}
    (hrun : (Builtin.append_ #[49, 49] o.type #[v, y]).run Try.prog W = .ok v' w') (hW : w = W)
    (hK : wpList Try.prog ops Q rest (a.put o.dst v') w') : wpList Try.prog ops Q (o :: rest) a w := by
  refine wpList_plain hg fun K hK' => ?_
  subst hW
  unfold Oper.wp
  simp [execOp, hop, resolve, invoke, builtin, hs, hx, hrun, Result.andThen]
  exact hK' _ _ hK
end
end Go.Proofs.Ytobnfadcffhfdaa
