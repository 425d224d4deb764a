/- Walks: pure. -/
import Derived.Test.YthffnepfnadakaaSpr
namespace Go.Proofs.Ythffnepfnadakaa

theorem walkFrom_at : ∀ (l : List Int) (k i : Nat), 0 < i → i < l.length → (∀ j, 0 < j → j < i → leadsS (l.getD (j - 1) 0) (l.getD j 0) = true) → leadsS (l.getD (i - 1) 0) (l.getD i 0) = false → walkFrom k l + 1 = k + i
  | [], k, i, _, h, _, _ => by simp at h
  | [a], k, i, h0, h, _, _ => by simp at h; omega
  | a :: b :: l, k, i, h0, h, hb, hf => by
    rcases Nat.lt_or_ge 1 i with h1 | h1
    · have hab : leadsS a b = true := by simpa using hb 1 (by omega) h1
      obtain ⟨i', rfl⟩ : ∃ i', i = i' + 1 := ⟨i - 1, by omega⟩
      rw [walkFrom, hab, if_pos rfl]
      have := walkFrom_at (b :: l) (k + 1) i' (by omega) (by simp at h ⊢; omega) (fun j q1 q2 => by
        have := hb (j + 1) (by omega) (by omega)
        rw [Nat.add_sub_cancel] at this
        obtain ⟨j', rfl⟩ : ∃ j', j = j' + 1 := ⟨j - 1, by omega⟩
        simpa using this) (by
        rw [Nat.add_sub_cancel] at hf
        obtain ⟨j', rfl⟩ : ∃ j', i' = j' + 1 := ⟨i' - 1, by omega⟩
        simpa using hf)
      omega
    · obtain rfl : i = 1 := by omega
      have hab : leadsS a b = false := by simpa using hf
      rw [walkFrom, hab]
      simp
theorem walkFrom_none : ∀ (l : List Int) (k : Nat), (∀ j, 0 < j → j < l.length → leadsS (l.getD (j - 1) 0) (l.getD j 0) = true) → walkFrom k l = 0
  | [], k, _ => rfl
  | [a], k, _ => rfl
  | a :: b :: l, k, hb => by
    have hab : leadsS a b = true := by simpa using hb 1 (by omega) (by simp)
    rw [walkFrom, hab, if_pos rfl]
    exact walkFrom_none (b :: l) (k + 1) (fun j q1 q2 => by
      have := hb (j + 1) (by omega) (by simpa using q2)
      rw [Nat.add_sub_cancel] at this
      obtain ⟨j', rfl⟩ : ∃ j', j = j' + 1 := ⟨j - 1, by omega⟩
      simpa using this)
theorem walk_at {l : List Int} {i : Nat} (h0 : 0 < i) (hi : i < l.length) (hb : ∀ j, 0 < j → j < i → leadsS (l.getD (j - 1) 0) (l.getD j 0) = true) (hf : leadsS (l.getD (i - 1) 0) (l.getD i 0) = false) : walkAt l = i := by
  have := walkFrom_at l 1 i h0 hi hb hf
  unfold walkAt
  omega
theorem walk_none {l : List Int} (hb : ∀ j, 0 < j → j < l.length → leadsS (l.getD (j - 1) 0) (l.getD j 0) = true) : walkAt l = 0 := walkFrom_none l 1 hb
/-- A walk's steps. -/
theorem walkFrom_steps : ∀ (l : List Int) (k : Nat), 0 < k → walkFrom k l = 0 → ∀ j, 0 < j → j < l.length → leadsS (l.getD (j - 1) 0) (l.getD j 0) = true
  | [], _, _, _, j, _, h => by simp at h
  | [a], _, _, _, j, h0, h => by simp at h; omega
  | a :: b :: l, k, hk, hz, j, h0, h => by
    rw [walkFrom] at hz
    split at hz
    · rename_i hab
      rcases Nat.lt_or_ge 1 j with h1 | h1
      · obtain ⟨j', rfl⟩ : ∃ j', j = j' + 2 := ⟨j - 2, by omega⟩
        have := walkFrom_steps (b :: l) (k + 1) (by omega) hz (j' + 1) (by omega) (by simp at h ⊢; omega)
        simpa using this
      · obtain rfl : j = 1 := by omega
        simpa using hab
    · omega
theorem walk_steps {l : List Int} (h : walkAt l = 0) {j : Nat} (h0 : 0 < j) (hj : j < l.length) : leadsS (l.getD (j - 1) 0) (l.getD j 0) = true := walkFrom_steps l 1 (by omega) h j h0 hj
/-- Who leads to another one is no last one, and live. -/
theorem leads_live {a b : Int} (h : leadsS a b = true) : lastS a = false ∧ liveS a = true ∧ mayS a = true ∧ mayS b = true := by
  unfold leadsS at h
  simp only [Bool.and_eq_true] at h
  obtain ⟨⟨h1, h2⟩, h3⟩ := h
  have hne : (nextL a.toNat).isEmpty = false := by
    cases hh : nextL a.toNat with
    | nil => unfold leadsN at h3; rw [hh] at h3; cases h3
    | cons x y => rfl
  refine ⟨by unfold lastS; rw [h1, hne]; rfl, by unfold liveS; rw [h1, hne]; rfl, h1, h2⟩
theorem next_filter : all9 (fun a => nextL a == (List.range' 1 9).filter (fun b => leadsN a b)) = true := by decide +kernel
theorem live_may (a : Int) : liveS a = (mayS a && !lastS a) := by
  unfold liveS lastS
  cases mayS a <;> simp
/-- The list that the law makes of those next. -/
def wantS (a : Int) (k : Nat) : List Int := ((List.range' 1 k).filter fun b => leadsS a ((b : Nat) : Int)).map (fun (n : Nat) => (n : Int))
theorem wantS_step (a : Int) (k : Nat) : wantS a (k + 1) = if leadsS a ((k + 1 : Nat) : Int) then wantS a k ++ [((k + 1 : Nat) : Int)] else wantS a k := by
  unfold wantS
  rw [List.range'_1_concat, List.filter_append, Nat.add_comm 1 k]
  by_cases h : leadsS a ((k + 1 : Nat) : Int) = true
  · rw [if_pos h, List.filter_cons, if_pos h]
    simp
  · rw [if_neg h, List.filter_cons, if_neg h]
    simp
theorem wantS_nine (a : Int) : wantS a 9 = nextS a := by
  unfold wantS nextS
  by_cases h : mayS a = true
  · rw [if_pos h]
    have hr : 1 ≤ a ∧ a ≤ 9 := of_decide_eq_true h
    have := all9_of next_filter (n := a.toNat) (by omega) (by omega)
    rw [beq_iff_eq] at this
    rw [this]
    congr 1
    apply List.filter_congr
    intro b hb
    rw [List.mem_range'_1] at hb
    unfold leadsS
    rw [h, show mayS ((b : Nat) : Int) = true from decide_eq_true (by omega), Int.toNat_natCast]
    rfl
  · rw [if_neg h]
    have h2 : mayS a = false := by simpa using h
    have : (List.range' 1 9).filter (fun b => leadsS a ((b : Nat) : Int)) = [] := by
      rw [List.filter_eq_nil_iff]
      intro b _
      unfold leadsS
      rw [h2]
      simp
    rw [this]
    rfl
theorem find_at {p : Nat → Bool} {k : Nat} (hk : 1 ≤ k) (h9 : k ≤ 9) (hp : p k = true) (hb : ∀ j, 1 ≤ j → j < k → p j = false) : (List.range' 1 9).find? p = some k := by
  rw [List.find?_eq_some_iff_append]
  refine ⟨hp, List.range' 1 (k - 1), List.range' (k + 1) (9 - k), ?_, fun j hj => ?_⟩
  · have h : k = 1 ∨ k = 2 ∨ k = 3 ∨ k = 4 ∨ k = 5 ∨ k = 6 ∨ k = 7 ∨ k = 8 ∨ k = 9 := by omega
    rcases h with rfl | rfl | rfl | rfl | rfl | rfl | rfl | rfl | rfl <;> rfl
  · rw [List.mem_range'_1] at hj
    rw [hb j hj.1 (by omega)]
    rfl
theorem find_none {p : Nat → Bool} (hb : ∀ j, 1 ≤ j → j < 10 → p j = false) : (List.range' 1 9).find? p = none := by
  rw [List.find?_eq_none]
  intro j hj
  rw [List.mem_range'_1] at hj
  rw [hb j hj.1 (by omega)]
  simp
theorem of_at {l : List UInt8} {k : Nat} (hk : 1 ≤ k) (h9 : k ≤ 9) (hp : letB k = l) (hb : ∀ j, 1 ≤ j → j < k → letB j ≠ l) : ofSN l = k ∧ ofSE l = 0 := by
  have h : ofSN l = k := by
    unfold ofSN
    rw [find_at hk h9 (by rw [beq_iff_eq]; exact hp) (fun j q1 q2 => by rw [beq_eq_false_iff_ne]; exact hb j q1 q2)]
    rfl
  exact ⟨h, by unfold ofSE; rw [h, if_neg (by omega)]⟩
theorem of_none {l : List UInt8} (hb : ∀ j, 1 ≤ j → j < 10 → letB j ≠ l) : ofSN l = 0 ∧ ofSE l = 2 := by
  have h : ofSN l = 0 := by
    unfold ofSN
    rw [find_none (fun j q1 q2 => by rw [beq_eq_false_iff_ne]; exact hb j q1 q2)]
    rfl
  exact ⟨h, by unfold ofSE; rw [h, if_pos rfl]⟩
theorem let_of : all9 (fun k => ofSN (letB k) == k && ofSE (letB k) == 0 && (letB k).length == 1) = true := by decide +kernel
theorem of_letter (a : Int) : ofSN (letterS a) = (if mayS a then a.toNat else 0) ∧ ofSE (letterS a) = if mayS a then 0 else 2 := by
  unfold letterS
  by_cases h : mayS a = true
  · rw [if_pos h, if_pos h, if_pos h]
    have hr : 1 ≤ a ∧ a ≤ 9 := of_decide_eq_true h
    have := all9_of let_of (n := a.toNat) (by omega) (by omega)
    simp only [Bool.and_eq_true, beq_iff_eq] at this
    exact ⟨this.1.1, this.1.2⟩
  · rw [if_neg h, if_neg h, if_neg h]
    exact ⟨by decide +kernel, by decide +kernel⟩
end Go.Proofs.Ythffnepfnadakaa
