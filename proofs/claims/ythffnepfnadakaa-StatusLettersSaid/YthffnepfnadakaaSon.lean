/- couponref12.on: all simple walks of some rows, each a status longer. -/
import Derived.Test.YthffnepfnadakaaSrk
namespace Go.Proofs.Ythffnepfnadakaa
open Go.RowKit

section
variable {ops : Array Oper} {o : Oper} {a : Act} {Q : Exit → Act → World → Prop}
theorem wpList_bi {rest : List Oper} {w w' : World} {v y v' : Value} {t : TypeId} (hg : o.guard = none) (s x : Operand) (hop : o.op = Op.call { callee := Callee.builtin Builtin.append, args := #[s, x], argTypes := #[t, t] }) (hs : a.eval s = v) (hx : a.eval x = y)
    (hrun : (Builtin.append_ #[t, t] o.type #[v, y]).run Try.prog w = .ok v' w') (h : wpList Try.prog ops Q rest (a.put o.dst v') w') : wpList Try.prog ops Q (o :: rest) a w := by
  refine wpList_plain hg fun K' hK' => ?_
  unfold Oper.wp
  simp [execOp, hop, resolve, invoke, builtin, hs, hx, hrun, Result.andThen]
  exact hK' _ _ h
end
theorem append_nil_sts {w : World} {A : Option Addr} {n c : Nat} {zs : List Int} (hu : IntsAt w (.slice A n c) zs) (hp : 0 < zs.length) (hl : zs.length ≤ 100000) (ty : TypeId) :
    ∃ v' w', (Builtin.append_ #[25, 25] ty #[.slice none 0 0, .slice A n c]).run Try.prog w = .ok v' w' ∧ RowS w' w.heap.size v' zs ∧ Fr (fun _ => False) w w' := by
  obtain ⟨i0, hi, hz0, hz1, hz2⟩ := info_parts infoSt
  obtain ⟨A', c', e, hm, h2⟩ := hu
  obtain ⟨b, off, rfl, hcell⟩ := h2 hp
  injection e with e1 e2 e3
  subst e1 e2 e3
  obtain ⟨v', w', hrun, g2, g3, _, g5⟩ := run_append_own_at (P := Try.prog) w w.heap.size 25 ty 22 i0 (.int .i64 0) 1 8 Try.underlying25 hi hz0 hz1 hz2 rfl (by omega) (.slice none 0 0) 0 [] (World.ownsRow_nil _ _ _ _) ⟨b, off, none⟩ zs.length c (zs.map (Value.int .i64)) (by simp) (fun j u hj => by
    rw [List.getElem?_map, Option.map_eq_some_iff] at hj
    obtain ⟨z, hz, rfl⟩ := hj
    rw [add_plain]
    exact hcell j z hz) (fun u hu => by obtain ⟨z, _, rfl⟩ := List.mem_map.1 hu; rfl) (by simp only [maxLen]; omega) (by omega) (Nat.le_refl _)
  refine ⟨v', w', hrun, ?_, (Fr.refl (fun _ => False) w).grown g3 (fun k hk => by cases hk)⟩
  unfold RowS
  rw [Nat.zero_add] at g2
  simpa using g2
theorem append_one_st {w : World} {B g : Nat} {v : Value} {l : List Int} {z : Int} (h : RowS w B v l) (hz : w.cell? ⟨g, 0, none⟩ = some (.int .i64 z)) (hl : l.length ≤ 100000) (hB : B ≤ w.heap.size) (ty : TypeId) :
    ∃ v' w', (Builtin.append_ #[25, 25] ty #[v, .slice (some ⟨g, 0, none⟩) 1 1]).run Try.prog w = .ok v' w' ∧ RowS w' B v' (l ++ [z]) ∧ w.grownBy w' v.ownBlock := by
  obtain ⟨i0, hi, hz0, hz1, hz2⟩ := info_parts infoSt
  obtain ⟨v', w', hrun, g2, g3, _, g5⟩ := run_append_own_at (P := Try.prog) w B 25 ty 22 i0 (.int .i64 0) 1 8 Try.underlying25 hi hz0 hz1 hz2 rfl (by omega) v l.length (l.map (Value.int .i64)) h ⟨g, 0, none⟩ 1 1 [.int .i64 z] rfl (fun j u hj => by
    match j, hj with
    | 0, hj => simp at hj; subst hj; rw [add_plain]; exact hz) (fun u hu => by rw [List.mem_singleton.1 hu]; rfl) (by simp only [maxLen]; omega) (by omega) hB
  refine ⟨v', w', hrun, ?_, g3⟩
  unfold RowS
  rw [List.length_append, List.map_append]
  exact g2
theorem LstS.low {w : World} {base k : Nat} {v : Value} {ls : List (List Nat)} (h : LstS w base v ls) (hk : v.ownBlock = some k) : base ≤ k := by
  obtain ⟨vs, ⟨_, h1⟩, _⟩ := h
  rcases h1 with ⟨rfl, _⟩ | ⟨g, cap, cur, rfl, hb, _⟩
  · cases hk
  · injection hk with hk
    subst hk
    exact hb
/-- The new row is laid behind the others. -/
theorem third_append {w5 w7 : World} {B s : Nat} {out : Value} {ls : List (List Nat)} {r : List Nat} {A2 : Option Addr} {n2 c2 : Nat} (h2 : RowS w7 w5.heap.size (.slice A2 n2 c2) (upN r ++ [(s : Int)])) (f7 : Fr (fun _ => False) w5 w7) (hO : LstS w5 B out ls) (hB : B ≤ w5.heap.size) (hn : ls.length < 1000000000) :
    ∃ v' w', (Builtin.append_ #[52, 52] 52 #[out, .slice (some ⟨w7.heap.size, 0, none⟩) 1 1]).run Try.prog (w7.alloc (.cells #[.slice A2 n2 c2] 25)) = .ok v' w' ∧ LstS w' B v' (ls ++ [r ++ [s]]) ∧ Fr (fun k => out.ownBlock = some k) w5 w' ∧ (v'.ownBlock = out.ownBlock ∨ ∃ k, v'.ownBlock = some k ∧ w5.heap.size ≤ k) := by
  have fa : Fr (fun _ => False) w7 (w7.alloc (.cells #[.slice A2 n2 c2] 25)) := (Fr.refl _ w7).alloc _
  have f8 := f7.trans fa (fun _ _ q => q)
  have hup : upN r ++ [(s : Int)] = upN (r ++ [s]) := by simp [upN]
  rw [hup] at h2
  obtain ⟨vs, q1, q2⟩ := hO
  have hlt : ∀ b, out.ownBlock = some b → b < w5.heap.size := fun b hb => by
    rcases q1.2 with ⟨rfl, _⟩ | ⟨g, cap, cur, rfl, _, hg, _⟩
    · cases hb
    · injection hb with hb
      subst hb
      exact (Array.getElem?_eq_some_iff.1 hg).1
  obtain ⟨v', w', g1, g2, g3, g4⟩ := append_sl (l := r ++ [s]) (LstS.new ⟨vs, q1, q2⟩ f8) ((Blk.new w7 25 #[.slice A2 n2 c2]).cell 0) ((h2.keep0 fa).ints) (fun b hb => by
    have h5 := h2.low hb
    have h6 : b < w7.heap.size := by
      rcases h2.2 with ⟨q, _⟩ | ⟨g, cap, cur, q, _, hg, _⟩
      · injection q with q _ _
        subst q
        cases hb
      · injection q with q _ _
        subst q
        injection hb with hb
        subst hb
        exact (Array.getElem?_eq_some_iff.1 hg).1
    exact ⟨by omega, fun q => by have := hlt b q; omega, Nat.lt_of_lt_of_le h6 fa.size⟩) hn (by have := f8.size; omega) 52
  refine ⟨v', w', g1, g2, (f8.mono (fun _ _ q => q.elim)).grown g3 (fun k hk => .inl hk), ?_⟩
  rcases g4 with e | e
  · exact .inl e
  · exact .inr ⟨_, e, f8.size⟩
/-- A row's ways on, as far as the k-th status. -/
def oneTo (r : List Nat) (k : Nat) : List (List Nat) := ((List.range' 1 k).filter fun s => !r.contains s && leadsN (r.getLastD 0) s).map fun s => r ++ [s]
theorem oneTo_nine (r : List Nat) : oneTo r 9 = onOne r := rfl
theorem oneTo_zero (r : List Nat) : oneTo r 0 = [] := rfl
theorem oneTo_step (r : List Nat) (k : Nat) : oneTo r (k + 1) = oneTo r k ++ (if !r.contains (k + 1) && leadsN (r.getLastD 0) (k + 1) then [r ++ [k + 1]] else []) := by
  unfold oneTo
  rw [List.range'_1_concat, List.filter_append, Nat.add_comm 1 k, List.map_append]
  congr 1
  by_cases h : (!r.contains (k + 1) && leadsN (r.getLastD 0) (k + 1)) = true
  · rw [if_pos h, List.filter_cons, if_pos h]; rfl
  · rw [if_neg h, List.filter_cons, if_neg h]; rfl
theorem oneTo_len (r : List Nat) (k : Nat) : (oneTo r k).length ≤ k := by
  unfold oneTo
  rw [List.length_map]
  exact Nat.le_trans (List.length_filter_le _ _) (by simp)
theorem onL_take {L : List (List Nat)} {i : Nat} {r : List Nat} (h : L[i]? = some r) : onL (L.take (i + 1)) = onL (L.take i) ++ onOne r := by
  unfold onL
  rw [List.take_add_one, h]
  simp
theorem onL_len (L : List (List Nat)) : (onL L).length ≤ 9 * L.length := by
  unfold onL
  induction L with
  | nil => simp
  | cons r L ih =>
    rw [List.flatMap_cons, List.length_append, List.length_cons]
    have := oneTo_len r 9
    rw [oneTo_nine] at this
    omega
/-- Rows that are walks of those nine. -/
def Nines (L : List (List Nat)) : Prop := ∀ r ∈ L, 0 < r.length ∧ r.length ≤ 100 ∧ ∀ x ∈ r, 1 ≤ x ∧ x ≤ 9
end Go.Proofs.Ythffnepfnadakaa
