/- Rows of structs of one's own: one of them put anew, one more appended. -/
import Derived.Test.YtmopkfjnjbimnaaKin
namespace Go.Proofs.Ytmopkfjnjbimnaa
open Go.RowKit

theorem blk_part {g : Nat} {T : TypeId} : ∀ (l : List Value) (o : Nat) (w : World) (cs : Array Value), Blk w g T cs → o + l.length ≤ cs.size → ∃ ds, Blk (w.setCells g o l) g T ds ∧ ds.size = cs.size ∧ (∀ j, j < o → ds[j]? = cs[j]?) ∧ ∀ j, ds[o + j]? = if j < l.length then l[j]? else cs[o + j]? := by
  intro l
  induction l with
  | nil => exact fun o w cs h _ => ⟨cs, h, rfl, fun _ _ => rfl, fun j => by simp⟩
  | cons x l ih =>
    intro o w cs h hl
    rw [List.length_cons] at hl
    obtain ⟨ds, d1, d2, d3, d4⟩ := ih (o + 1) _ _ (h.set_ o x) (by simpa using (by omega : o + 1 + l.length ≤ cs.size))
    refine ⟨ds, d1, by simpa using d2, fun j hj => ?_, fun j => ?_⟩
    · rw [d3 j (by omega), Array.getElem?_setIfInBounds_ne (by omega)]
    · cases j with
      | zero =>
        rw [Nat.add_zero, d3 o (by omega), Array.getElem?_setIfInBounds_self_of_lt (by omega)]
        simp
      | succ j =>
        have := d4 j
        rw [show o + 1 + j = o + (j + 1) by omega] at this
        rw [this]
        by_cases hj : j < l.length
        · simp [hj]
        · rw [if_neg hj, if_neg (by simp; omega), Array.getElem?_setIfInBounds_ne (by omega)]
section
variable {α : Type} {k B : Nat} {T : TypeId} {enc : α → List Value} {w : World} {xs : List α}
theorem RwO.set {g n c : Nat} (h : RwO w B T k enc (.slice (some ⟨g, 0, none⟩) n c) xs) (hk : ∀ x, (enc x).length = k) {m : Nat} (y : α) (hm : m < xs.length) :
    w.there g (m * k) k ∧ RwO (w.setCells g (m * k) (enc y)) B T k enc (.slice (some ⟨g, 0, none⟩) n c) (xs.set m y) := by
  obtain ⟨h0, ⟨h1, -⟩ | ⟨g', c', cur, hv, hb, hg, hc, hx, hs, ht⟩⟩ := h
  · cases h1
  injection hv with e1 e2 e3
  injection e1 with e1
  injection e1 with e1
  subst e1 e2 e3
  have hle : (m + 1) * k ≤ xs.length * k := Nat.mul_le_mul_right k hm
  have hle2 : xs.length * k ≤ c * k := Nat.mul_le_mul_right k hc
  rw [Nat.add_mul, Nat.one_mul] at hle
  refine ⟨fun j hj => ?_, ?_⟩
  · have := (blk_there (show Blk w g T cur from hg) (Nat.le_refl _)) (m * k + j) (by omega)
    rwa [Nat.zero_add] at this
  obtain ⟨ds, d1, d2, d3, d4⟩ := blk_part (enc y) (m * k) w cur hg (by rw [hk]; omega)
  have hl : ((xs.set m y).flatMap enc).length = xs.length * k := by rw [flat_len hk, List.length_set]
  refine ⟨by rw [flat_len hk], .inr ⟨g, c, ds, by rw [List.length_set], hb, d1, by rw [List.length_set]; exact hc, hx, by rw [d2, hs], ?_⟩⟩
  rw [List.length_set]
  apply List.ext_getElem?
  intro j
  by_cases hj : j < xs.length * k
  · obtain ⟨u, hu⟩ : ∃ u, ((xs.set m y).flatMap enc)[j]? = some u := ⟨_, List.getElem?_eq_getElem (by rw [hl]; exact hj)⟩
    rw [hu, List.getElem?_take, if_pos hj, Array.getElem?_toList]
    obtain ⟨i, x, q, rfl, hq, hi, hxu⟩ := flat_at hk _ j u hu
    by_cases him : i = m
    · subst him
      rw [List.getElem?_set_self hm] at hi
      injection hi with hi
      subst hi
      rw [d4 q, if_pos (by rw [hk]; exact hq), hxu]
    · rw [List.getElem?_set_ne (fun e => him e.symm)] at hi
      have h5 := flat_get hk xs i q x u hi hxu
      rw [← ht, List.getElem?_take, if_pos hj, Array.getElem?_toList] at h5
      rcases Nat.lt_or_gt_of_ne him with hlt | hgt
      · have : (i + 1) * k ≤ m * k := Nat.mul_le_mul_right k hlt
        rw [Nat.add_mul, Nat.one_mul] at this
        rw [d3 _ (by omega), h5]
      · have : (m + 1) * k ≤ i * k := Nat.mul_le_mul_right k hgt
        rw [Nat.add_mul, Nat.one_mul] at this
        obtain ⟨r, hr⟩ : ∃ r, i * k + q = m * k + (k + r) := ⟨i * k + q - m * k - k, by omega⟩
        rw [hr, d4, if_neg (by rw [hk]; omega), ← hr, h5]
  · rw [List.getElem?_eq_none (by rw [List.length_take]; omega), List.getElem?_eq_none (by rw [hl]; omega)]
end
section
variable {ops : Array Oper} {o : Oper} {a : Act} {Q : Exit → Act → World → Prop}
/-- One event more. -/
theorem wpList_append_ev {rest : List Oper} {w : World} (hg : o.guard = none) (s x : Operand) (hop : o.op = Op.call { callee := Callee.builtin Builtin.append, args := #[s, x], argTypes := #[25, 25] }) {v : Value} {l : List EvT} {B : Nat} (hs : a.eval s = v)
    (hown : RwO w B 51 4 evC v l) {g : Nat} {u : EvT} (hx : a.eval x = .slice (some ⟨g, 0, none⟩) 1 1) (hu : Blk w g 51 (evC u).toArray) (hn : l.length ≤ 100000) (hb : B ≤ w.heap.size)
    (hK : ∀ v' w', RwO w' B 51 4 evC v' (l ++ [u]) → Fr (fun b => v.ownBlock = some b) w w' → wpList Try.prog ops Q rest (a.put o.dst v') w') : wpList Try.prog ops Q (o :: rest) a w := by
  refine wpList_plain hg fun K' hK' => ?_
  obtain ⟨i0, hi, hz0, hz1, hz2⟩ := info_parts infoEv
  obtain ⟨v', w', hrun, ho', hgr, _, _⟩ := run_append_own_at (P := Try.prog) w B 25 o.type 51 i0 (.agg (evC noEv).toArray) 4 32 Try.underlying25 hi hz0 hz1 hz2 rfl (by omega) v l.length (l.flatMap evC) hown ⟨g, 0, none⟩ 1 1 (evC u) rfl (fun j q hj => by
      rw [add_plain]
      have := blk_range hu j q (by simpa using hj)
      exact this) (evC_one u) (by simp only [maxLen]; omega) (by omega) hb
  unfold Oper.wp
  simp [execOp, hop, resolve, invoke, builtin, hs, hx, hrun, Result.andThen]
  refine hK' _ _ (hK v' w' ?_ ((Fr.refl _ w).grown hgr (fun k hk => .inl hk)))
  unfold RwO
  rw [List.length_append, List.flatMap_append, List.flatMap_singleton]
  exact ho'
end
theorem blk_apart {w : World} {b : Nat} {T U : TypeId} {cs ds : Array Value} (h : Blk w b T cs) (h' : Blk w b U ds) : T = U := by
  unfold Blk at h h'
  rw [h] at h'
  injection h' with h'
  injection h'
theorem ch_step {w w3 w7 w8 : World} {v4 v5 v6 : Value} {o : Obj} {cps : List CpD} {txs : List TxD} {his : List EvT} {z u y : Array Value} (hf : Fr (fun _ => False) w w7) (hlo : ∀ b, v4.ownBlock = some b ∨ v5.ownBlock = some b ∨ v6.ownBlock = some b → w.heap.size + 1 < b ∧ b < w3.heap.size)
    (h4 : RwO w7 w.heap.size 49 6 cpC v4 cps) (h5 : RwO w7 w.heap.size 62 2 txC v5 txs) (h6 : RwO w7 w.heap.size 51 4 evC v6 his) (hz : Blk w7 (w.heap.size + 1) 27 z) (h12 : Blk w7 w3.heap.size 27 u) (h13 : Blk w7 (w3.heap.size + 1) 49 y)
    (f8 : Fr (fun b => v6.ownBlock = some b) (w7.alloc o) w8) :
    Fr (fun _ => False) w w8 ∧ RwO w8 w.heap.size 49 6 cpC v4 cps ∧ RwO w8 w.heap.size 62 2 txC v5 txs ∧ Blk w8 (w.heap.size + 1) 27 z ∧ Blk w8 w3.heap.size 27 u ∧ Blk w8 (w3.heap.size + 1) 49 y := by
  have fa : Fr (fun _ => False) w7 (w7.alloc o) := (Fr.refl _ w7).alloc _
  refine ⟨(hf.alloc o).trans f8 (fun b hb q => by have := hlo b (.inr (.inr q)); omega), (h4.keep0 fa).keep f8 (fun b hb q => ?_), (h5.keep0 fa).keep f8 (fun b hb q => ?_), (hz.keep fa (fun q => q)).keep f8 (fun q => by have := hlo _ (.inr (.inr q)); omega), (h12.keep fa (fun q => q)).keep f8 (fun q => by have := hlo _ (.inr (.inr q)); omega), (h13.keep fa (fun q => q)).keep f8 (fun q => by have := hlo _ (.inr (.inr q)); omega)⟩
  · obtain ⟨_, k1⟩ := h4.type hb
    obtain ⟨_, k2⟩ := h6.type q
    exact absurd (blk_apart k1 k2) (by decide)
  · obtain ⟨_, k1⟩ := h5.type hb
    obtain ⟨_, k2⟩ := h6.type q
    exact absurd (blk_apart k1 k2) (by decide)
end Go.Proofs.Ytmopkfjnjbimnaa
