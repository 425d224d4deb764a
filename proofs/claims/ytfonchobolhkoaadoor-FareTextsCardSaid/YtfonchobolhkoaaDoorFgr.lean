/- Cents dealt out: the greedy way; what follows. No program. -/
import Derived.Test.YtfonchobolhkoaaDoorFth
namespace Go.Proofs.YtfonchobolhkoaaDoor

/-- What each has lost; -1 of those who got theirs. -/
def mask (l : List Nat) (T : List Bool) : List Int := List.zipWith (fun (x : Nat) b => if b then (-1 : Int) else (x : Int)) l T
theorem mask_len {l : List Nat} {T : List Bool} (h : T.length = l.length) : (mask l T).length = l.length := by simp [mask, h]
theorem mask_at {l : List Nat} {T : List Bool} (h : T.length = l.length) {i : Nat} (hi : i < l.length) : (mask l T)[i]? = some (if T[i]'(by omega) then (-1 : Int) else (l[i] : Int)) := by
  simp [mask, List.getElem?_zipWith, List.getElem?_eq_getElem hi, List.getElem?_eq_getElem (show i < T.length by omega)]
/-- The first of those who lost the most, of the first k. -/
def am (l : List Int) : Nat → Nat
  | 0 => 0
  | k + 1 => if l.getD (am l k) 0 < l.getD k 0 then k else am l k
theorem am_le (l : List Int) : ∀ k, am l (k + 1) ≤ k
  | 0 => by simp [am]
  | k + 1 => by
    have := am_le l k
    rw [am]
    split <;> omega
theorem am_max (l : List Int) : ∀ k j, j < k → l.getD j 0 ≤ l.getD (am l k) 0 ∧ (j < am l k → l.getD j 0 < l.getD (am l k) 0)
  | 0, j, h => by omega
  | k + 1, j, h => by
    by_cases hjk : j = k
    · subst hjk
      rw [am]
      by_cases q : l.getD (am l j) 0 < l.getD j 0
      · rw [if_pos q]
        exact ⟨Int.le_refl _, fun h => absurd h (by omega)⟩
      · rw [if_neg q]
        refine ⟨by omega, fun h => ?_⟩
        cases j with
        | zero => simp [am] at h
        | succ j => have := am_le l j; omega
    · have ih := am_max l k j (by omega)
      rw [am]
      by_cases q : l.getD (am l k) 0 < l.getD k 0
      · rw [if_pos q]
        exact ⟨by omega, fun _ => by omega⟩
      · rw [if_neg q]
        exact ih
/-- One cent more. -/
def stepT (l : List Nat) (T : List Bool) : List Bool := T.set (am (mask l T) l.length) true
def grT (l : List Nat) : Nat → List Bool
  | 0 => List.replicate l.length false
  | n + 1 => stepT l (grT l n)
theorem count_set : ∀ (T : List Bool) (i : Nat), T[i]? = some false → (T.set i true).count true = T.count true + 1
  | [], i, h => by simp at h
  | a :: T, 0, h => by
    have : a = false := by simpa using h
    subst this
    simp [List.count_cons]
  | a :: T, i + 1, h => by
    have := count_set T i (by simpa using h)
    simp only [List.set_cons_succ, List.count_cons, this]
    omega
theorem exists_false : ∀ (T : List Bool), T.count true < T.length → ∃ i : Nat, T[i]? = some false
  | [], h => by simp at h
  | false :: _, _ => ⟨0, rfl⟩
  | true :: T, h => by
    obtain ⟨i, hi⟩ := exists_false T (by simp [List.count_cons] at h; omega)
    exact ⟨i + 1, by simpa using hi⟩
theorem getD_at {α : Type} {l : List α} {d x : α} {i : Nat} (h : l[i]? = some x) : l.getD i d = x := by rw [List.getD_eq_getElem?_getD, h]; rfl
theorem step_fair {l : List Nat} {T : List Bool} {m : Nat} (h : Fair l T m) (hm : m < l.length) : Fair l (stepT l T) (m + 1) ∧ am (mask l T) l.length < l.length ∧ T[am (mask l T) l.length]? = some false := by
  obtain ⟨at_, ha⟩ : ∃ a, a = am (mask l T) l.length := ⟨_, rfl⟩
  have hlen := h.len
  have hal : at_ < l.length := by
    obtain ⟨n, hn⟩ : ∃ n, l.length = n + 1 := ⟨l.length - 1, by omega⟩
    have := am_le (mask l T) n
    rw [ha, hn]
    omega
  obtain ⟨j0, hj0⟩ := exists_false T (by rw [h.cnt, hlen]; exact hm)
  have hj0l : j0 < T.length := (List.getElem?_eq_some_iff.1 hj0).1
  have key := fun j (hj : j < l.length) => am_max (mask l T) l.length j hj
  rw [← ha] at key
  have hT0 : T[j0]'hj0l = false := (List.getElem?_eq_some_iff.1 hj0).2
  have hbig : (0 : Int) ≤ (mask l T).getD at_ 0 := by
    have := (key j0 (by omega)).1
    rw [getD_at (mask_at hlen (show j0 < l.length by omega)), hT0] at this
    have h0 : (if false = true then (-1 : Int) else ((l[j0]'(by omega) : Nat) : Int)) = ((l[j0]'(by omega) : Nat) : Int) := rfl
    rw [h0] at this
    omega
  have hTa : T[at_]'(by omega) = false := by
    cases hh : T[at_]'(by omega) with
    | false => rfl
    | true =>
      rw [getD_at (mask_at hlen hal), hh] at hbig
      have h0 : (if true = true then (-1 : Int) else ((l[at_] : Nat) : Int)) = -1 := rfl
      rw [h0] at hbig
      omega
  have hTa' : T[at_]? = some false := by rw [List.getElem?_eq_getElem (by omega), hTa]
  refine ⟨?_, ha ▸ hal, ha ▸ hTa'⟩
  have hsl : (stepT l T).length = l.length := by simp [stepT, hlen]
  refine ⟨hsl, by unfold stepT; rw [← ha, count_set T at_ hTa', h.cnt], (fair_at hsl).2 ?_⟩
  intro i j hi hj h1 h2
  have old := (fair_at hlen).1 h.pri
  unfold stepT at h1 h2
  rw [← ha] at h1 h2
  have hja : j ≠ at_ := by
    intro e
    rw [e, List.getElem?_set_self (by omega)] at h2
    cases h2
  rw [List.getElem?_set_ne (fun e => hja e.symm)] at h2
  by_cases hia : i = at_
  · subst hia
    have kj := key j hj
    have hTj : T[j]'(by omega) = false := by rw [List.getElem?_eq_getElem (by omega)] at h2; simpa using h2
    rw [getD_at (mask_at hlen hj), getD_at (mask_at hlen hal), hTj, hTa] at kj
    simp only [Bool.false_eq_true, if_false] at kj
    omega
  · rw [List.getElem?_set_ne (fun e => hia e.symm)] at h1
    exact old i j hi hj h1 h2
theorem gr_fair (l : List Nat) : ∀ m, m ≤ l.length → Fair l (grT l m) m
  | 0, _ => by
    refine ⟨by simp [grT], by simp [grT, List.count_replicate], ?_⟩
    rw [fair_at (by simp [grT])]
    intro i j hi hj h1 _
    simp [grT, List.getElem?_replicate, hi] at h1
  | m + 1, h => (step_fair (gr_fair l m (by omega)) (by omega)).1
/-- The shares of an amount. -/
def dealT (a : Nat) (ws : List Nat) : List Bool := grT (rL a (sumN ws) ws) (leftOf a ws)
def dealL (a : Nat) (ws : List Nat) : List Nat := sharesOf (qL a (sumN ws) ws) (dealT a ws)
theorem rL_len (a S : Nat) (ws : List Nat) : (rL a S ws).length = ws.length := by simp [rL]
theorem qL_len (a S : Nat) (ws : List Nat) : (qL a S ws).length = ws.length := by simp [qL]
theorem deal_fair {a : Nat} {ws : List Nat} (hS : 0 < sumN ws) : Fair (rL a (sumN ws) ws) (dealT a ws) (leftOf a ws) := gr_fair _ _ (by rw [rL_len]; exact Nat.le_of_lt (left_lt hS))
theorem deal_len {a : Nat} {ws : List Nat} (hS : 0 < sumN ws) : (dealL a ws).length = ws.length := by
  unfold dealL
  rw [sharesOf_len (by rw [(deal_fair hS).len, rL_len, qL_len]), qL_len]
theorem deal_sum {a : Nat} {ws : List Nat} (hS : 0 < sumN ws) : sumN (dealL a ws) = a := by
  unfold dealL
  rw [sharesOf_sum (by rw [(deal_fair hS).len, rL_len, qL_len]), (deal_fair hS).cnt]
  exact (left_eq hS).1
theorem deal_at {a : Nat} {ws : List Nat} (hS : 0 < sumN ws) {i : Nat} (hi : i < ws.length) : ∃ b, (dealT a ws)[i]? = some b ∧ (dealL a ws)[i]? = some (a * ws[i] / sumN ws + if b then 1 else 0) := by
  have hl : (dealT a ws).length = (qL a (sumN ws) ws).length := by rw [(deal_fair hS).len, rL_len, qL_len]
  have hq : i < (qL a (sumN ws) ws).length := by rw [qL_len]; exact hi
  refine ⟨(dealT a ws)[i]'(by omega), List.getElem?_eq_getElem _, ?_⟩
  unfold dealL
  rw [sharesOf_at hl hq]
  simp [qL]
/-- Who got a cent more had lost something. -/
theorem taken_pos {l : List Nat} {T : List Bool} {m S : Nat} (h : Fair l T m) (hS : ∀ x ∈ l, x < S) (hm : sumN l = S * m) {i : Nat} (hi : i < l.length) (hT : T[i]? = some true) : 0 < l[i] := by
  apply Decidable.byContradiction
  intro hn
  have h0 : l[i] = 0 := by omega
  have old := (fair_at h.len).1 h.pri
  have hz : ∀ j (hj : j < l.length), T[j]? = some false → l[j] = 0 := fun j hj q => by have := old i j hi hj hT q; omega
  -- so all that was lost was lost by those who got a cent, and i lost none
  have key : ∀ (l : List Nat) (T : List Bool), T.length = l.length → (∀ x ∈ l, x < S) → (∀ j (hj : j < l.length), T[j]? = some false → l[j] = 0) → sumN l + T.count true ≤ S * T.count true := by
    intro l
    induction l with
    | nil => intro T hT _ _; simp at hT; subst hT; simp
    | cons x l ih =>
      intro T hT hx hz
      match T, hT with
      | b :: T, hT =>
        have ih' := ih T (by simpa using hT) (fun y hy => hx y (List.mem_cons_of_mem _ hy)) (fun j hj q => by have := hz (j + 1) (by simpa using hj) (by simpa using q); rwa [List.getElem_cons_succ] at this)
        have hxS := hx x (List.mem_cons_self ..)
        cases b with
        | true =>
          simp only [sumN_cons, List.count_cons_self, Nat.mul_succ]
          omega
        | false =>
          have := hz 0 (by simp) rfl
          simp at this
          simp [List.count_cons, this]
          exact ih'
  have key2 : ∀ (l : List Nat) (T : List Bool) (i : Nat) (hi : i < l.length), T.length = l.length → (∀ x ∈ l, x < S) → (∀ j (hj : j < l.length), T[j]? = some false → l[j] = 0) → T[i]? = some true → l[i] = 0 → sumN l + T.count true + S ≤ S * T.count true + 1 := by
    intro l
    induction l with
    | nil => intro T i hi; simp at hi
    | cons x l ih =>
      intro T i hi hT hx hz hTi hli
      match T, hT with
      | b :: T, hT =>
        have hT' : T.length = l.length := by simpa using hT
        have hx' : ∀ y ∈ l, y < S := fun y hy => hx y (List.mem_cons_of_mem _ hy)
        have hz' : ∀ j (hj : j < l.length), T[j]? = some false → l[j] = 0 := fun j hj q => by have := hz (j + 1) (by simpa using hj) (by simpa using q); rwa [List.getElem_cons_succ] at this
        have hxS := hx x (List.mem_cons_self ..)
        cases i with
        | zero =>
          have hb : b = true := by simpa using hTi
          subst hb
          have hx0 : x = 0 := by simpa using hli
          have := key l T hT' hx' hz'
          simp only [sumN_cons, List.count_cons_self, Nat.mul_succ]
          omega
        | succ i =>
          have ih' := ih T i (by simpa using hi) hT' hx' hz' (by simpa using hTi) (by simpa using hli)
          cases b with
          | true =>
            simp only [sumN_cons, List.count_cons_self, Nat.mul_succ]
            omega
          | false =>
            have := hz 0 (by simp) rfl
            simp at this
            simp [List.count_cons, this]
            omega
  have hk := key2 l T i hi h.len hS hz hT h0
  rw [h.cnt, hm] at hk
  have hS1 : 0 < S := by have := hS l[i] (List.getElem_mem hi); omega
  have hm1 : 0 < m := by
    rw [← h.cnt]
    exact List.count_pos_iff.2 (List.mem_of_getElem? hT)
  omega
theorem rL_lt {a S : Nat} (hS : 0 < S) (ws : List Nat) : ∀ x ∈ rL a S ws, x < S := by
  intro x hx
  simp [rL] at hx
  obtain ⟨w, _, rfl⟩ := hx
  exact Nat.mod_lt _ hS
/-- Each one's share is its exact one, rounded down, or up where it lost something. -/
theorem deal_near {a : Nat} {ws : List Nat} (hS : 0 < sumN ws) {i : Nat} (hi : i < ws.length) : (dealL a ws)[i]? = some (a * ws[i] / sumN ws) ∨ (dealL a ws)[i]? = some (a * ws[i] / sumN ws + 1) ∧ a * ws[i] % sumN ws ≠ 0 := by
  obtain ⟨b, hb, hd⟩ := deal_at (a := a) hS hi
  cases b with
  | false => exact .inl (by rw [hd]; rfl)
  | true =>
    refine .inr ⟨by rw [hd]; rfl, ?_⟩
    have hir : i < (rL a (sumN ws) ws).length := by rw [rL_len]; exact hi
    have := taken_pos (deal_fair (a := a) hS) (rL_lt hS ws) (left_eq hS).2.symm hir hb
    simp [rL] at this
    omega
/-- A lesser weight has no greater share. -/
theorem deal_mono {a : Nat} {ws : List Nat} (hS : 0 < sumN ws) {i k x y : Nat} (hi : i < ws.length) (hk : k < ws.length) (hlt : ws[k] < ws[i]) (hx : (dealL a ws)[i]? = some x) (hy : (dealL a ws)[k]? = some y) : y ≤ x := by
  obtain ⟨b, hb, hd⟩ := deal_at (a := a) hS hi
  obtain ⟨c, hc, he⟩ := deal_at (a := a) hS hk
  rw [hd] at hx
  rw [he] at hy
  injection hx with hx
  injection hy with hy
  have hmul : a * ws[k] ≤ a * ws[i] := Nat.mul_le_mul_left a (Nat.le_of_lt hlt)
  have hq : a * ws[k] / sumN ws ≤ a * ws[i] / sumN ws := Nat.div_le_div_right hmul
  by_cases hqe : a * ws[k] / sumN ws = a * ws[i] / sumN ws
  · cases b with
    | true =>
      have c1 : (if c then 1 else 0) ≤ 1 := by cases c <;> simp
      have b1 : (if true = true then 1 else 0) = 1 := rfl
      rw [b1] at hx
      omega
    | false =>
      cases c with
      | false => omega
      | true =>
        have hf := (fair_at (deal_fair (a := a) hS).len).1 (deal_fair (a := a) hS).pri k i (by rw [rL_len]; exact hk) (by rw [rL_len]; exact hi) hc hb
        have hp := taken_pos (deal_fair (a := a) hS) (rL_lt hS ws) (left_eq hS).2.symm (by rw [rL_len]; exact hk) hc
        simp [rL] at hf hp
        have d1 := Nat.div_add_mod (a * ws[k]) (sumN ws)
        have d2 := Nat.div_add_mod (a * ws[i]) (sumN ws)
        rw [hqe] at d1
        have hne : a * ws[k] < a * ws[i] := by
          have ha : 0 < a := by
            apply Decidable.byContradiction
            intro q
            have : a = 0 := by omega
            subst this
            simp at hp
          exact Nat.mul_lt_mul_of_pos_left hlt ha
        omega
  · have c1 : (if c then 1 else 0) ≤ 1 := by cases c <;> simp
    omega
end Go.Proofs.YtfonchobolhkoaaDoor
