/- Cents dealt out: alike whether all weights are times as great, or noughts stand among them. No program. -/
import Derived.Test.YtfonchobolhkoaaDoorFgr
namespace Go.Proofs.YtfonchobolhkoaaDoor

theorem sumN_mul (ws : List Nat) (t : Nat) : sumN (ws.map (· * t)) = sumN ws * t := by
  induction ws with
  | nil => simp
  | cons w ws ih => simp [ih, Nat.add_mul]
theorem qL_mul {t : Nat} (ht : 0 < t) (a S : Nat) (ws : List Nat) : qL a (S * t) (ws.map (· * t)) = qL a S ws := by
  unfold qL
  rw [List.map_map]
  apply List.map_congr_left
  intro w _
  show a * (w * t) / (S * t) = a * w / S
  rw [← Nat.mul_assoc, Nat.mul_div_mul_right _ _ ht]
theorem rL_mul {t : Nat} (a S : Nat) (ws : List Nat) : rL a (S * t) (ws.map (· * t)) = (rL a S ws).map (· * t) := by
  unfold rL
  rw [List.map_map, List.map_map]
  apply List.map_congr_left
  intro w _
  show a * (w * t) % (S * t) = a * w % S * t
  rw [← Nat.mul_assoc, Nat.mul_mod_mul_right]
theorem Fair.mul {l : List Nat} {T : List Bool} {m t : Nat} (h : Fair l T m) (ht : 0 < t) : Fair (l.map (· * t)) T m := by
  have hl : T.length = (l.map (· * t)).length := by simp [h.len]
  refine ⟨hl, h.cnt, (fair_at hl).2 ?_⟩
  intro i j hi hj h1 h2
  have := (fair_at h.len).1 h.pri i j (by simpa using hi) (by simpa using hj) h1 h2
  simp only [List.getElem_map]
  rcases this with q | ⟨q1, q2⟩
  · exact .inl (Nat.mul_lt_mul_of_pos_right q ht)
  · exact .inr ⟨by rw [q1], q2⟩
theorem deal_mul {a t : Nat} {ws : List Nat} (hS : 0 < sumN ws) (ht : 0 < t) : dealL a (ws.map (· * t)) = dealL a ws := by
  have hS2 : 0 < sumN (ws.map (· * t)) := by rw [sumN_mul]; exact Nat.mul_pos hS ht
  have hT : dealT a (ws.map (· * t)) = dealT a ws := by
    have h1 := deal_fair (a := a) hS2
    have h2 := (deal_fair (a := a) hS).mul ht
    have hl : leftOf a (ws.map (· * t)) = leftOf a ws := by
      unfold leftOf
      rw [sumN_mul, qL_mul ht]
    rw [sumN_mul, rL_mul, hl] at h1
    exact h1.uniq h2
  unfold dealL
  rw [hT, sumN_mul, qL_mul ht]
/-- Elements, each behind so many others. -/
def withL {α : Type} (d : α) (g : Nat → α) (z : Nat → Nat) : Nat → List α
  | 0 => []
  | n + 1 => withL d g z n ++ (List.replicate (z n) d ++ [g n])
/-- Where the n-th one stands. -/
def fromL (z : Nat → Nat) : Nat → Nat
  | 0 => z 0
  | n + 1 => fromL z n + 1 + z (n + 1)
theorem withL_len {α : Type} (d : α) (g : Nat → α) (z : Nat → Nat) : ∀ n, (withL d g z (n + 1)).length = fromL z n + 1
  | 0 => by simp [withL, fromL]
  | n + 1 => by
    rw [withL, List.length_append, withL_len d g z n]
    simp [fromL]
    omega
theorem withL_get {α : Type} (d : α) (g : Nat → α) (z : Nat → Nat) : ∀ n k, k < n → (withL d g z n)[fromL z k]? = some (g k)
  | 0, k, h => by omega
  | n + 1, k, h => by
    rw [withL]
    by_cases hk : k = n
    · subst hk
      cases k with
      | zero => simp [withL, fromL]
      | succ k =>
        have hl := withL_len d g z k
        rw [List.getElem?_append_right (by rw [hl]; simp [fromL]), hl]
        simp [fromL, show fromL z k + 1 + z (k + 1) - (fromL z k + 1) = z (k + 1) by omega]
    · have ih := withL_get d g z n k (by omega)
      rw [List.getElem?_append_left (List.getElem?_eq_some_iff.1 ih).1]
      exact ih
theorem withL_map {α β : Type} (d : α) (g : Nat → α) (z : Nat → Nat) (h : α → β) : ∀ n, (withL d g z n).map h = withL (h d) (fun k => h (g k)) z n
  | 0 => rfl
  | n + 1 => by simp [withL, withL_map d g z h n]
theorem withL_zip {α β : Type} (d : α) (e : β) (g : Nat → α) (k : Nat → β) (z : Nat → Nat) : ∀ n, (withL d g z n).zip (withL e k z n) = withL (d, e) (fun i => (g i, k i)) z n
  | 0 => rfl
  | n + 1 => by
    have hl : (withL d g z n).length = (withL e k z n).length := by
      cases n with
      | zero => rfl
      | succ n => rw [withL_len, withL_len]
    simp only [withL]
    rw [List.zip_append hl, withL_zip d e g k z n, List.zip_append (by simp)]
    simp [List.zip_replicate]
theorem withL_mem {α : Type} {d : α} {g : Nat → α} {z : Nat → Nat} {x : α} : ∀ {n}, x ∈ withL d g z n → x = d ∨ ∃ k, k < n ∧ x = g k
  | 0, h => by simp [withL] at h
  | n + 1, h => by
    simp only [withL, List.mem_append, List.mem_replicate, List.mem_singleton] at h
    rcases h with h | h | h
    · rcases withL_mem h with q | ⟨k, q1, q2⟩
      · exact .inl q
      · exact .inr ⟨k, by omega, q2⟩
    · exact .inl h.2
    · exact .inr ⟨n, by omega, h⟩
theorem withL_sum (g : Nat → Nat) (z : Nat → Nat) (n : Nat) : sumN (withL 0 g z n) = sumN ((List.range n).map g) := by
  induction n with
  | zero => rfl
  | succ n ih =>
    have hr : ∀ k, sumN (List.replicate k 0) = 0 := fun k => by
      induction k with
      | zero => rfl
      | succ k ih => simp [List.replicate_succ, ih]
    simp only [withL, sumN_app, ih, List.range_succ, List.map_append, hr]
    simp
theorem withL_count (k : Nat → Bool) (z : Nat → Nat) (n : Nat) : (withL false k z n).count true = ((List.range n).map k).count true := by
  induction n with
  | zero => rfl
  | succ n ih => simp [withL, List.range_succ, ih, List.count_replicate]
theorem withL_pair {g : Nat → Nat} {k : Nat → Bool} {z : Nat → Nat} : ∀ n, (((List.range n).map fun i => (g i, k i)) : List (Nat × Bool)).Pairwise Rel2 → (∀ i, i < n → k i = true → 0 < g i) → (withL (0, false) (fun i => (g i, k i)) z n).Pairwise Rel2
  | 0, _, _ => by simp [withL]
  | n + 1, h, hp => by
    rw [List.range_succ, List.map_append, List.pairwise_append] at h
    obtain ⟨h1, _, h3⟩ := h
    have ih := withL_pair (z := z) n h1 (fun i hi => hp i (by omega))
    have hz : ∀ x : Nat × Bool, Rel2 x (0, false) := fun x => ⟨fun _ _ => Nat.zero_le _, fun q => by cases q⟩
    have hz2 : ∀ i, i < n + 1 → Rel2 (0, false) (g i, k i) := fun i hi => ⟨fun q => by simp at q, fun q _ => hp i hi q⟩
    rw [withL, List.pairwise_append]
    refine ⟨ih, ?_, ?_⟩
    · rw [List.pairwise_append]
      refine ⟨?_, by simp, ?_⟩
      · rw [List.pairwise_replicate]
        exact .inr (hz _)
      · intro x hx y hy
        obtain ⟨_, rfl⟩ := List.mem_replicate.1 hx
        obtain rfl := List.mem_singleton.1 hy
        exact hz2 n (by omega)
    · intro x hx y hy
      rcases List.mem_append.1 hy with hy | hy
      · obtain ⟨_, rfl⟩ := List.mem_replicate.1 hy
        exact hz x
      · obtain rfl := List.mem_singleton.1 hy
        rcases withL_mem hx with rfl | ⟨i, hi, rfl⟩
        · exact hz2 n (by omega)
        · exact h3 _ (List.mem_map.2 ⟨i, List.mem_range.2 hi, rfl⟩) _ (by simp)
theorem range_get {α : Type} (l : List α) (d : α) : (List.range l.length).map (fun i => l.getD i d) = l := by
  apply List.ext_getElem?
  intro i
  simp only [List.getElem?_map]
  by_cases h : i < l.length
  · rw [List.getElem?_range h, List.getElem?_eq_getElem h]
    simp [h]
  · rw [List.getElem?_eq_none (by simpa using h), List.getElem?_eq_none (by simpa using h)]
    rfl
theorem withL_congr {α : Type} {d : α} {g k : Nat → α} {z : Nat → Nat} : ∀ n, (∀ i, i < n → g i = k i) → withL d g z n = withL d k z n
  | 0, _ => rfl
  | n + 1, h => by rw [withL, withL, withL_congr n (fun i hi => h i (by omega)), h n (by omega)]
/-- Noughts among the weights take nothing from the others. -/
theorem deal_with {a : Nat} {ws : List Nat} (hS : 0 < sumN ws) (z : Nat → Nat) : dealL a (withL 0 (fun i => ws.getD i 0) z ws.length) = withL 0 (fun i => (dealL a ws).getD i 0) z ws.length := by
  have hsum : sumN (withL 0 (fun i => ws.getD i 0) z ws.length) = sumN ws := by rw [withL_sum, range_get]
  have hq : qL a (sumN ws) (withL 0 (fun i => ws.getD i 0) z ws.length) = withL 0 (fun i => (qL a (sumN ws) ws).getD i 0) z ws.length := by
    unfold qL
    rw [withL_map, Nat.mul_zero, Nat.zero_div]
    apply withL_congr
    intro i hi
    simp [hi]
  have hr : rL a (sumN ws) (withL 0 (fun i => ws.getD i 0) z ws.length) = withL 0 (fun i => (rL a (sumN ws) ws).getD i 0) z ws.length := by
    unfold rL
    rw [withL_map, Nat.mul_zero, Nat.zero_mod]
    apply withL_congr
    intro i hi
    simp [hi]
  have hl : leftOf a (withL 0 (fun i => ws.getD i 0) z ws.length) = leftOf a ws := by
    unfold leftOf
    rw [hsum, hq, withL_sum]
    have := range_get (qL a (sumN ws) ws) 0
    rw [qL_len] at this
    rw [this]
  have hf := deal_fair (a := a) hS
  have hlen := hf.len
  rw [rL_len] at hlen
  have hT : dealT a (withL 0 (fun i => ws.getD i 0) z ws.length) = withL false (fun i => (dealT a ws).getD i false) z ws.length := by
    have h1 := deal_fair (a := a) (ws := withL 0 (fun i => ws.getD i 0) z ws.length) (by rw [hsum]; exact hS)
    rw [hsum, hl, hr] at h1
    refine h1.uniq ⟨?_, ?_, ?_⟩
    · cases hn : ws.length with
      | zero => rfl
      | succ n => rw [withL_len, withL_len]
    · rw [withL_count]
      have := range_get (dealT a ws) false
      rw [hlen] at this
      rw [this, hf.cnt]
    · rw [withL_zip]
      apply withL_pair
      · have e : (List.range ws.length).map (fun i => ((rL a (sumN ws) ws).getD i 0, (dealT a ws).getD i false)) = (rL a (sumN ws) ws).zip (dealT a ws) := by
          have h1 := range_get ((rL a (sumN ws) ws).zip (dealT a ws)) (0, false)
          rw [List.length_zip, rL_len, hlen, Nat.min_self] at h1
          rw [← h1]
          apply List.map_congr_left
          intro i hi
          have hi' := List.mem_range.1 hi
          rw [List.getD_eq_getElem?_getD, List.getD_eq_getElem?_getD, List.getD_eq_getElem?_getD]
          rw [List.getElem?_eq_getElem (show i < (rL a (sumN ws) ws).length by rw [rL_len]; exact hi'), List.getElem?_eq_getElem (show i < (dealT a ws).length by omega), List.getElem?_eq_getElem (show i < ((rL a (sumN ws) ws).zip (dealT a ws)).length by rw [List.length_zip, rL_len, hlen]; omega)]
          simp
        rw [e]
        exact hf.pri
      · intro i hi hk
        have hir : i < (rL a (sumN ws) ws).length := by rw [rL_len]; exact hi
        have hti : (dealT a ws)[i]? = some true := by
          rw [List.getD_eq_getElem?_getD, List.getElem?_eq_getElem (show i < (dealT a ws).length by omega)] at hk
          rw [List.getElem?_eq_getElem (show i < (dealT a ws).length by omega)]
          simpa using hk
        have := taken_pos hf (rL_lt hS ws) (left_eq hS).2.symm hir hti
        rw [List.getD_eq_getElem?_getD, List.getElem?_eq_getElem hir]
        exact this
  unfold dealL
  rw [hsum, hT, hq]
  unfold sharesOf
  have hzw : ∀ (p : List Nat) (t : List Bool), List.zipWith (fun x b => x + if b then 1 else 0) p t = (p.zip t).map (fun y => y.1 + if y.2 then 1 else 0) := fun p t => by rw [List.zip, List.map_zipWith]
  rw [hzw, withL_zip, withL_map]
  apply withL_congr
  intro i hi
  have h1 : i < (qL a (sumN ws) ws).length := by rw [qL_len]; exact hi
  simp [List.getD_eq_getElem?_getD, List.getElem?_zipWith, List.getElem?_eq_getElem h1, List.getElem?_eq_getElem (show i < (dealT a ws).length by omega)]
end Go.Proofs.YtfonchobolhkoaaDoor
