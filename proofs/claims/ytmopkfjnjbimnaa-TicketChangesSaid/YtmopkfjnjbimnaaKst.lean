/- Rows of structs of plain cells, read from memory, and of one's own. -/
import Derived.Test.YtmopkfjnjbimnaaKbe
import Derived.Great.BuildSlice
import Derived.Laws.StructEq
namespace Go.Proofs.Ytmopkfjnjbimnaa
open Go.RowKit

section flat
variable {α β : Type} {k : Nat} {enc : α → List β}
theorem flat_len (hk : ∀ x, (enc x).length = k) (xs : List α) : (xs.flatMap enc).length = xs.length * k := by
  induction xs with
  | nil => simp
  | cons x l ih => rw [List.flatMap_cons, List.length_append, ih, hk, List.length_cons, Nat.add_mul, Nat.one_mul, Nat.add_comm]
theorem flat_get (hk : ∀ x, (enc x).length = k) : ∀ (xs : List α) (i q : Nat) (x : α) (u : β), xs[i]? = some x → (enc x)[q]? = some u → (xs.flatMap enc)[i * k + q]? = some u
  | [], i, q, x, u, h, _ => by simp at h
  | y :: l, 0, q, x, u, h, hu => by
    simp only [List.getElem?_cons_zero, Option.some.injEq] at h
    subst h
    have hq : q < (enc y).length := (List.getElem?_eq_some_iff.1 hu).1
    rw [List.flatMap_cons, Nat.zero_mul, Nat.zero_add, List.getElem?_append_left hq]
    exact hu
  | y :: l, i + 1, q, x, u, h, hu => by
    rw [List.flatMap_cons, List.getElem?_append_right (by rw [hk, Nat.add_mul, Nat.one_mul]; omega), hk]
    have := flat_get hk l i q x u (by simpa using h) hu
    rw [← this]
    congr 1
    rw [Nat.add_mul, Nat.one_mul]
    omega
theorem flat_at (hk : ∀ x, (enc x).length = k) : ∀ (xs : List α) (j : Nat) (u : β), (xs.flatMap enc)[j]? = some u → ∃ i x q, j = i * k + q ∧ q < k ∧ xs[i]? = some x ∧ (enc x)[q]? = some u
  | [], j, u, h => by simp at h
  | y :: l, j, u, h => by
    rw [List.flatMap_cons] at h
    rcases Nat.lt_or_ge j k with hj | hj
    · rw [List.getElem?_append_left (by rw [hk]; exact hj)] at h
      exact ⟨0, y, j, by omega, hj, rfl, h⟩
    · rw [List.getElem?_append_right (by rw [hk]; exact hj), hk] at h
      obtain ⟨i, x, q, h1, h2, h3, h4⟩ := flat_at hk l (j - k) u h
      exact ⟨i + 1, x, q, by rw [Nat.add_mul, Nat.one_mul]; omega, h2, by simpa using h3, h4⟩
theorem flat_one (x : α) : [x].flatMap enc = enc x := by simp
end flat

/-- At b, off lie the structs xs, each of k cells. -/
def RwAt {α : Type} (w : World) (b off k : Nat) (enc : α → List Value) (xs : List α) : Prop := ∀ (i : Nat) (x : α) (j : Nat) (u : Value), xs[i]? = some x → (enc x)[j]? = some u → w.cell? ⟨b, off + i * k + j, none⟩ = some u
/-- A list of structs, read from memory. -/
def RwV {α : Type} (w : World) (k : Nat) (enc : α → List Value) (v : Value) (xs : List α) : Prop :=
  ∃ A c, v = .slice A xs.length c ∧ xs.length ≤ c ∧ c ≤ maxLen ∧ (0 < xs.length → ∃ b off, A = some ⟨b, off, none⟩ ∧ RwAt w b off k enc xs)
section
variable {α : Type} {k : Nat} {enc : α → List Value} {w w' : World} {v : Value} {xs : List α}
theorem RwAt.keep {F : Nat → Prop} {b off : Nat} (h : RwAt w b off k enc xs) (f : Fr F w w') (hF : ¬ F b) : RwAt w' b off k enc xs := fun i x j u hx hu => by
  have h1 := h i x j u hx hu
  exact (f.cell (World.block_lt_of_cell? w _ h1) hF).trans h1
theorem RwV.nil (w : World) (k : Nat) (enc : α → List Value) : RwV w k enc (.slice none 0 0) ([] : List α) := ⟨none, 0, rfl, Nat.le_refl _, Nat.zero_le _, fun h => absurd h (by simp)⟩
theorem RwV.keep {F : Nat → Prop} (h : RwV w k enc v xs) (f : Fr F w w') (hF : ∀ b, v.ownBlock = some b → ¬ F b) : RwV w' k enc v xs := by
  obtain ⟨A, c, rfl, h1, h2, h3⟩ := h
  refine ⟨A, c, rfl, h1, h2, fun hp => ?_⟩
  obtain ⟨b, off, rfl, h4⟩ := h3 hp
  exact ⟨b, off, rfl, h4.keep f (hF b rfl)⟩
theorem RwV.keep0 (h : RwV w k enc v xs) (f : Fr (fun _ => False) w w') : RwV w' k enc v xs := h.keep f (fun _ _ q => q)
theorem RwV.slice (h : RwV w k enc v xs) : ∃ A c, v = .slice A xs.length c ∧ xs.length ≤ c ∧ c ≤ maxLen := by
  obtain ⟨A, c, rfl, h1, h2, _⟩ := h
  exact ⟨A, c, rfl, h1, h2⟩
theorem RwV.cell (h : RwV w k enc v xs) {i : Nat} {x : α} (hx : xs[i]? = some x) : ∃ b off c, v = .slice (some ⟨b, off, none⟩) xs.length c ∧ ∀ (j : Nat) (u : Value), (enc x)[j]? = some u → w.cell? ⟨b, off + i * k + j, none⟩ = some u := by
  obtain ⟨A, c, rfl, h1, h2, h3⟩ := h
  obtain ⟨b, off, rfl, h4⟩ := h3 (by have := (List.getElem?_eq_some_iff.1 hx).1; omega)
  exact ⟨b, off, c, rfl, fun j u hu => h4 i x j u hx hu⟩
end
/-- A list of structs of one's own. -/
def RwO {α : Type} (w : World) (B : Nat) (T : TypeId) (k : Nat) (enc : α → List Value) (v : Value) (xs : List α) : Prop := w.ownsRow B T k v xs.length (xs.flatMap enc)
section
variable {α : Type} {k B : Nat} {T : TypeId} {enc : α → List Value} {w w' : World} {v : Value} {xs : List α}
theorem RwO.nil (w : World) (B : Nat) (T : TypeId) (k : Nat) (enc : α → List Value) : RwO w B T k enc (.slice none 0 0) ([] : List α) := World.ownsRow_nil _ _ _ _
theorem RwO.keep (h : RwO w B T k enc v xs) {F : Nat → Prop} (f : Fr F w w') (hF : ∀ b, v.ownBlock = some b → ¬ F b) : RwO w' B T k enc v xs := own_keep h f hF
theorem RwO.keep0 (h : RwO w B T k enc v xs) (f : Fr (fun _ => False) w w') : RwO w' B T k enc v xs := own_keep h f (fun _ _ q => q)
theorem RwO.rd (h : RwO w B T k enc v xs) (hk : ∀ x, (enc x).length = k) : RwV w k enc v xs := by
  obtain ⟨A, c, rfl, h1, h2⟩ := own_slice h
  refine ⟨A, c, rfl, h1, h2, fun hp => ?_⟩
  have h9 := h
  obtain ⟨_, ⟨h0, h0'⟩ | ⟨b, c', cur, hv, hb, hg, _⟩⟩ := h9
  · omega
  · have hA : A = some ⟨b, 0, none⟩ := by injection hv
    subst hA
    refine ⟨b, 0, rfl, fun i x j u hx hu => ?_⟩
    have h5 := flat_get hk xs i j x u hx hu
    have := World.ownsRow.cells (g := b) h rfl (i * k + j) u h5
    rw [Addr.add_mid, Nat.zero_add] at this
    rw [Nat.zero_add]
    exact this
theorem RwO.low (h : RwO w B T k enc v xs) {b : Nat} (hb : v.ownBlock = some b) : B ≤ b ∧ b < w.heap.size := by
  obtain ⟨-, h | ⟨g, c, cs, rfl, h1, h2, -⟩⟩ := h
  · obtain ⟨rfl, -⟩ := h
    cases hb
  · injection hb with hb
    subst hb
    exact ⟨h1, Blk.lt h2⟩
theorem RwO.base (h : RwO w B T k enc v xs) {B' : Nat} (hB : B' ≤ B) : RwO w B' T k enc v xs := by
  obtain ⟨h0, h | ⟨g, c, cs, rfl, h1, h2⟩⟩ := h
  · exact ⟨h0, .inl h⟩
  · exact ⟨h0, .inr ⟨g, c, cs, rfl, Nat.le_trans hB h1, h2⟩⟩
theorem RwO.type (h : RwO w B T k enc v xs) {b : Nat} (hb : v.ownBlock = some b) : ∃ cur, Blk w b T cur := by
  obtain ⟨-, h | ⟨g, c, cs, rfl, h1, h2, -⟩⟩ := h
  · obtain ⟨rfl, -⟩ := h
    cases hb
  · injection hb with hb
    subst hb
    exact ⟨_, h2⟩
/-- All of a row, appended to nothing. -/
theorem run_all {P : Program} {t ty : TypeId} {i : TypeInfo} {z : Value} {bytes : Nat} (ht : P.underlying t = some (.slice T)) (hi : P.info? T = some i) (hz : i.zero = some z) (hsize : i.size = k) (hby : i.bytes = bytes) (hzs : z.cells.size = k) (hk0 : 0 < k)
    (hk : ∀ x, (enc x).length = k) (h1 : ∀ x, ∀ u ∈ enc x, u.oneCell' = true) (h : RwV w k enc v xs) (hb : xs.length * bytes ≤ 140737488355328) :
    ∃ v' w', (Builtin.append_ #[t, t] ty #[.slice none 0 0, v]).run P w = .ok v' w' ∧ RwO w' w.heap.size T k enc v' xs ∧ Fr (fun _ => False) w w' := by
  obtain ⟨A, c, rfl, hc, hm, hA⟩ := h
  rcases Nat.eq_zero_or_pos xs.length with h0 | h0
  · have hx : xs = [] := List.length_eq_zero_iff.1 h0
    subst hx
    refine ⟨.slice none 0 0, w, ?_, RwO.nil _ _ _ _ _, Fr.refl _ _⟩
    cases A <;> simp [Builtin.append_, run_underlying ht, sizeOf, typeInfo, hi, Builtin.lenOf, Builtin.firstCells, loadCells, loadCellsFrom]
  · obtain ⟨b, off, rfl, hat⟩ := hA h0
    obtain ⟨v', w', hr, ho, hg, _, hat2⟩ := run_append_own_at (P := P) w w.heap.size t ty T i z k bytes ht hi hz hsize hby hzs hk0 (.slice none 0 0) 0 [] (World.ownsRow_nil _ _ _ _) ⟨b, off, none⟩ xs.length c (xs.flatMap enc) (flat_len hk xs)
      (fun j u hj => by
        obtain ⟨i', x, q, rfl, hq, hx, hu⟩ := flat_at hk xs j u hj
        rw [add_plain]
        have := hat i' x q u hx hu
        rwa [Nat.add_assoc] at this)
      (fun u hu => by
        obtain ⟨x, _, hx⟩ := List.mem_flatMap.1 hu
        exact h1 x u hx) (by omega) (by simpa using hb) (Nat.le_refl _)
    rw [Nat.zero_add, List.nil_append] at ho
    exact ⟨v', w', hr, ho, (Fr.refl _ w).grown hg (fun k hk => by cases hk)⟩
end
end Go.Proofs.Ytmopkfjnjbimnaa
