/- Cents dealt out, plainly: no program. -/
import Derived.Test.YtfonchobolhkoaaDoorFin
namespace Go.Proofs.YtfonchobolhkoaaDoor

/-- Of two who lost: who is asked first. -/
def Rel2 (p q : Nat × Bool) : Prop := (p.2 = true → q.2 = false → q.1 ≤ p.1) ∧ (q.2 = true → p.2 = false → p.1 < q.1)
/-- So many get a cent more: those who lost the most, the first ones of those who lost the same. -/
structure Fair (l : List Nat) (T : List Bool) (m : Nat) : Prop where
  len : T.length = l.length
  cnt : T.count true = m
  pri : (l.zip T).Pairwise Rel2
theorem fair_at {l : List Nat} {T : List Bool} (hlen : T.length = l.length) : (l.zip T).Pairwise Rel2 ↔ ∀ i j (hi : i < l.length) (hj : j < l.length), T[i]? = some true → T[j]? = some false → l[j] < l[i] ∨ (l[j] = l[i] ∧ i < j) := by
  rw [List.pairwise_iff_getElem]
  constructor
  · intro h i j hi hj h1 h2
    have hTi : T[i]'(by omega) = true := by simpa [List.getElem?_eq_getElem (show i < T.length by omega)] using h1
    have hTj : T[j]'(by omega) = false := by simpa [List.getElem?_eq_getElem (show j < T.length by omega)] using h2
    rcases Nat.lt_trichotomy i j with q | q | q
    · have := (h i j (by simp; omega) (by simp; omega) q).1 (by simpa using hTi) (by simpa using hTj)
      simp at this
      omega
    · subst q
      rw [hTi] at hTj
      cases hTj
    · have := (h j i (by simp; omega) (by simp; omega) q).2 (by simpa using hTi) (by simpa using hTj)
      simp at this
      omega
  · intro h i j hi hj hij
    have hi1 : i < l.length := by rw [List.length_zip] at hi; omega
    have hj1 : j < l.length := by rw [List.length_zip] at hj; omega
    refine ⟨fun h1 h2 => ?_, fun h1 h2 => ?_⟩
    · simp at h1 h2 ⊢
      have := h i j hi1 hj1 (by rw [List.getElem?_eq_getElem (by omega), h1]) (by rw [List.getElem?_eq_getElem (by omega), h2])
      omega
    · simp at h1 h2 ⊢
      have := h j i hj1 hi1 (by rw [List.getElem?_eq_getElem (by omega), h1]) (by rw [List.getElem?_eq_getElem (by omega), h2])
      omega
theorem counts_differ : ∀ (T U : List Bool), T.length = U.length → (∀ i : Nat, T[i]? = some true → U[i]? = some true) → T.count true = U.count true → T = U
  | [], [], _, _, _ => rfl
  | [], _ :: _, h, _, _ => by simp at h
  | _ :: _, [], h, _, _ => by simp at h
  | a :: T, b :: U, h, hi, hc => by
    have hle : ∀ (T U : List Bool), T.length = U.length → (∀ i : Nat, T[i]? = some true → U[i]? = some true) → T.count true ≤ U.count true := by
      intro T
      induction T with
      | nil => intro U _ _; simp
      | cons a T ih =>
        intro U h hi
        match U, h with
        | b :: U, h =>
          have h0 := hi 0
          have hr := ih U (by simpa using h) (fun i q => by simpa using hi (i + 1) (by simpa using q))
          simp at h0
          cases a <;> cases b <;> simp_all <;> omega
    have h0 := hi 0
    have hr : ∀ i : Nat, T[i]? = some true → U[i]? = some true := fun i q => by simpa using hi (i + 1) (by simpa using q)
    have hl : T.length = U.length := by simpa using h
    have hle' := hle T U hl hr
    simp at h0
    rw [List.count_cons, List.count_cons] at hc
    have hab : a = b := by
      cases a <;> cases b
      · rfl
      · simp at hc
        omega
      · simp at h0
      · rfl
    subst hab
    rw [counts_differ T U hl hr (by omega)]
theorem Fair.uniq {l : List Nat} {T U : List Bool} {m : Nat} (h : Fair l T m) (k : Fair l U m) : T = U := by
  have h1 := (fair_at h.len).1 h.pri
  have k1 := (fair_at k.len).1 k.pri
  by_cases hTU : ∀ i : Nat, T[i]? = some true → U[i]? = some true
  · exact counts_differ T U (h.len.trans k.len.symm) hTU (h.cnt.trans k.cnt.symm)
  · by_cases hUT : ∀ i : Nat, U[i]? = some true → T[i]? = some true
    · exact (counts_differ U T (k.len.trans h.len.symm) hUT (k.cnt.trans h.cnt.symm)).symm
    · obtain ⟨i, hi⟩ := Classical.not_forall.1 hTU
      obtain ⟨j, hj⟩ := Classical.not_forall.1 hUT
      obtain ⟨hi1, hi2⟩ := Classical.not_imp.1 hi
      obtain ⟨hj1, hj2⟩ := Classical.not_imp.1 hj
      have il : i < T.length := (List.getElem?_eq_some_iff.1 hi1).1
      have jl : j < U.length := (List.getElem?_eq_some_iff.1 hj1).1
      have e1 := h.len
      have e2 := k.len
      have hi3 : U[i]? = some false := by
        rw [List.getElem?_eq_getElem (show i < U.length by omega)] at hi2 ⊢
        cases hh : U[i] <;> simp_all
      have hj3 : T[j]? = some false := by
        rw [List.getElem?_eq_getElem (show j < T.length by omega)] at hj2 ⊢
        cases hh : T[j] <;> simp_all
      have a1 := h1 i j (by omega) (by omega) hi1 hj3
      have a2 := k1 j i (by omega) (by omega) hj1 hi3
      omega
def sumN (l : List Nat) : Nat := l.foldr (· + ·) 0
@[simp] theorem sumN_nil : sumN [] = 0 := rfl
@[simp] theorem sumN_cons (a : Nat) (l : List Nat) : sumN (a :: l) = a + sumN l := rfl
theorem sumN_app (a b : List Nat) : sumN (a ++ b) = sumN a + sumN b := by
  induction a with
  | nil => simp
  | cons x a ih => simp [ih]; omega
/-- Each one's share: rounded down, and a cent for some. -/
def sharesOf (q : List Nat) (T : List Bool) : List Nat := List.zipWith (fun x b => x + if b then 1 else 0) q T
theorem sharesOf_len {q : List Nat} {T : List Bool} (h : T.length = q.length) : (sharesOf q T).length = q.length := by simp [sharesOf, h]
theorem sharesOf_sum : ∀ {q : List Nat} {T : List Bool}, T.length = q.length → sumN (sharesOf q T) = sumN q + T.count true
  | [], [], _ => rfl
  | [], _ :: _, h => by simp at h
  | _ :: _, [], h => by simp at h
  | x :: q, b :: T, h => by
    have := sharesOf_sum (q := q) (T := T) (by simpa using h)
    cases b <;> simp_all [sharesOf] <;> omega
theorem sharesOf_at {q : List Nat} {T : List Bool} (h : T.length = q.length) {i : Nat} (hi : i < q.length) : (sharesOf q T)[i]? = some (q[i] + if T[i]'(by omega) then 1 else 0) := by
  simp [sharesOf, List.getElem?_zipWith, List.getElem?_eq_getElem hi, List.getElem?_eq_getElem (show i < T.length by omega)]
def qL (a S : Nat) (ws : List Nat) : List Nat := ws.map (fun w => a * w / S)
def rL (a S : Nat) (ws : List Nat) : List Nat := ws.map (fun w => a * w % S)
theorem qr_sum (a S : Nat) (ws : List Nat) : S * sumN (qL a S ws) + sumN (rL a S ws) = a * sumN ws := by
  induction ws with
  | nil => simp [qL, rL]
  | cons w ws ih =>
    simp only [qL, rL, List.map_cons, sumN_cons, Nat.mul_add] at ih ⊢
    have := Nat.div_add_mod (a * w) S
    omega
theorem rL_le {a S : Nat} (hS : 0 < S) (ws : List Nat) : sumN (rL a S ws) + ws.length ≤ ws.length * S := by
  induction ws with
  | nil => simp [rL]
  | cons w ws ih =>
    simp only [rL, List.map_cons, sumN_cons, List.length_cons] at ih ⊢
    have := Nat.mod_lt (a * w) hS
    rw [Nat.succ_mul]
    omega
/-- How many cents are left. -/
def leftOf (a : Nat) (ws : List Nat) : Nat := a - sumN (qL a (sumN ws) ws)
theorem left_eq {a : Nat} {ws : List Nat} (hS : 0 < sumN ws) : sumN (qL a (sumN ws) ws) + leftOf a ws = a ∧ sumN ws * leftOf a ws = sumN (rL a (sumN ws) ws) := by
  have h := qr_sum a (sumN ws) ws
  have hq : sumN (qL a (sumN ws) ws) ≤ a := by
    apply Decidable.byContradiction
    intro hn
    have := Nat.mul_lt_mul_of_pos_right (show a < sumN (qL a (sumN ws) ws) by omega) hS
    rw [Nat.mul_comm (sumN (qL a (sumN ws) ws))] at this
    omega
  refine ⟨by unfold leftOf; omega, ?_⟩
  unfold leftOf
  rw [Nat.mul_sub, Nat.mul_comm (sumN ws) a]
  omega
theorem left_lt {a : Nat} {ws : List Nat} (hS : 0 < sumN ws) : leftOf a ws < ws.length := by
  have h1 := (left_eq (a := a) hS).2
  have h2 := rL_le (a := a) hS ws
  apply Decidable.byContradiction
  intro hn
  have := Nat.mul_le_mul_left (sumN ws) (show ws.length ≤ leftOf a ws by omega)
  rw [Nat.mul_comm (sumN ws) ws.length] at this
  have hl : 0 < ws.length := by
    cases ws with
    | nil => simp at hS
    | cons _ _ => simp
  omega
end Go.Proofs.YtfonchobolhkoaaDoor
