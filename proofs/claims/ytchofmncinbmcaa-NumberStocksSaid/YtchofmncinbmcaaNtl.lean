/- Ticket numbers: one digit that is another one; stocks: no program. -/
import Derived.Test.YtchofmncinbmcaaNth
namespace Go.Proofs.Ytchofmncinbmcaa

theorem dval_set (l : List UInt8) (i : Nat) (c : UInt8) (hi : i < l.length) : dval (l.set i c) + (l[i].toNat - 48) * 10 ^ (l.length - 1 - i) = dval l + (c.toNat - 48) * 10 ^ (l.length - 1 - i) := by
  have e1 : l.set i c = l.take i ++ c :: l.drop (i + 1) := List.set_eq_take_append_cons_drop ▸ by rw [if_pos hi]
  have e2 : l = l.take i ++ l[i] :: l.drop (i + 1) := by rw [List.getElem_cons_drop, List.take_append_drop]
  have hl : (l.drop (i + 1)).length = l.length - 1 - i := by rw [List.length_drop]; omega
  have d1 : dval (l.set i c) = dval (l.take i) * 10 ^ (l.length - 1 - i + 1) + ((c.toNat - 48) * 10 ^ (l.length - 1 - i) + dval (l.drop (i + 1))) := by
    rw [e1, dval_app, dval_cons, List.length_cons, hl]
  have d2 : dval l = dval (l.take i) * 10 ^ (l.length - 1 - i + 1) + ((l[i].toNat - 48) * 10 ^ (l.length - 1 - i) + dval (l.drop (i + 1))) := by
    conv => lhs; rw [e2]
    rw [dval_app, dval_cons, List.length_cons, hl]
  rw [d1, d2]
  omega
/-- Ten, so often with itself, is no multiple of 7: one digit's change is told modulo 7. -/
theorem ten_seven (k : Nat) {a b x y : Nat} (h : x + a * 10 ^ k = y + b * 10 ^ k) (ha : a < 10) (hb : b < 10) : x % 7 = y % 7 ↔ a = b ∨ a = b + 7 ∨ b = a + 7 := by
  have hp : ∀ j, 10 ^ j % 7 = 1 ∨ 10 ^ j % 7 = 2 ∨ 10 ^ j % 7 = 3 ∨ 10 ^ j % 7 = 4 ∨ 10 ^ j % 7 = 5 ∨ 10 ^ j % 7 = 6 := by
    intro j
    induction j with
    | zero => exact .inl rfl
    | succ j ih => rw [Nat.pow_succ]; omega
  obtain ⟨q, hq⟩ : ∃ q, q = 10 ^ k / 7 := ⟨_, rfl⟩
  have hr := hp k
  obtain ⟨r, hr'⟩ : ∃ r, r = 10 ^ k % 7 := ⟨_, rfl⟩
  have hk : 10 ^ k = 7 * q + r := by omega
  rw [← hr'] at hr
  rw [hk] at h
  have e1 : a * (7 * q + r) = 7 * (a * q) + a * r := by rw [Nat.mul_add, Nat.mul_left_comm]
  have e2 : b * (7 * q + r) = 7 * (b * q) + b * r := by rw [Nat.mul_add, Nat.mul_left_comm]
  rw [e1, e2] at h
  obtain ⟨A, hA⟩ : ∃ A, A = a * q := ⟨_, rfl⟩
  obtain ⟨B, hB⟩ : ∃ B, B = b * q := ⟨_, rfl⟩
  rw [← hA, ← hB] at h
  clear hA hB e1 e2 hk hq hr' hp
  rcases hr with rfl | rfl | rfl | rfl | rfl | rfl <;> constructor <;> intro w <;> omega
theorem set_digs {l : List UInt8} (h : l.all isDig = true) (i : Nat) {c : UInt8} (hc : isDig c = true) : (l.set i c).all isDig = true := by
  rw [List.all_eq_true] at h ⊢
  intro x hx
  rcases List.mem_or_eq_of_mem_set hx with q | q
  · exact h x q
  · rw [q]; exact hc
/-- What a text of a ticket number is, one of whose digits is another one. -/
theorem tells {n : Nat} (h : chkE n = 0) {i : Nat} (hi : i < 13) {c : UInt8} (hc : isDig c = true) {a : UInt8} (ha : (txt n)[i]? = some a) :
    (a = c → ofE ((txt n).set i c) = 0 ∧ ofN ((txt n).set i c) = n) ∧
    (i = 0 → c = 48 → a ≠ c → ofE ((txt n).set i c) = 2) ∧
    (a ≠ c → ¬ (i = 0 ∧ c = 48) → (a.toNat = c.toNat + 7 ∨ c.toNat = a.toNat + 7) → ofE ((txt n).set i c) = if i < 12 then 0 else 11) ∧
    (a ≠ c → ¬ (i = 0 ∧ c = 48) → ¬ (a.toNat = c.toNat + 7 ∨ c.toNat = a.toNat + 7) → ofE ((txt n).set i c) = 11) := by
  have hn : ¬ (n < 1000000000000 ∨ 9999999999999 < n) := fun q => by unfold chkE at h; rw [if_pos q] at h; cases h
  have hl1 := txt_len_le 12 n (by have : (10 : Nat) ^ 13 = 10000000000000 := rfl; omega)
  have hl2 := txt_len_ge 12 n (by have : (10 : Nat) ^ 12 = 1000000000000 := rfl; omega)
  have hl : (txt n).length = 13 := by omega
  obtain ⟨hd, hv, _⟩ := txt_digs n
  have hhd := txt_head n (by omega)
  obtain ⟨l, hll⟩ : ∃ l, l = txt n := ⟨_, rfl⟩
  rw [← hll] at ha hl hd hv hhd ⊢
  have hai : l[i]'(by omega) = a := by
    have := List.getElem?_eq_getElem (l := l) (i := i) (by omega)
    rw [this] at ha
    injection ha
  have had : isDig a = true := List.all_eq_true.1 hd a (List.mem_of_getElem? ha)
  have ha' : 48 ≤ a.toNat ∧ a.toNat ≤ 57 := of_decide_eq_true had
  have hc' : 48 ≤ c.toNat ∧ c.toNat ≤ 57 := of_decide_eq_true hc
  have hsl : (l.set i c).length = 13 := by rw [List.length_set, hl]
  have hsd := set_digs hd i hc
  have hne : a ≠ c ↔ a.toNat ≠ c.toNat := ⟨fun q e => q (UInt8.toNat_inj.1 e), fun q e => q (congrArg UInt8.toNat e)⟩
  have hds := dval_set l i c (by omega)
  rw [hai, hl, hv] at hds
  -- the twelve, the last one
  have hcut := dval_cut (l.set i c) 12 hsd
  rw [hsl] at hcut
  have h10 : n / 10 % 7 = n % 10 := by
    unfold chkE at h
    rw [if_neg hn] at h
    split at h
    · cases h
    · rename_i q; exact Decidable.not_not.1 q
  have hE : ∀ _ : ¬ (i = 0 ∧ c = 48), ofE (l.set i c) = if dval (l.set i c) / 10 % 7 ≠ dval (l.set i c) % 10 then 11 else 0 := fun q => by
    unfold ofE
    have hh : (l.set i c).head? ≠ some 48 := by
      cases i with
      | zero =>
        match l, hl with
        | x :: r, _ => simpa using fun e => q ⟨rfl, e⟩
      | succ i =>
        match l, hl, hhd with
        | x :: r, _, hhd => simpa using hhd
    rw [if_neg (by rw [hsl, hsd]; simp), if_neg hh, hcut.1, hcut.2]
  obtain ⟨z, hz⟩ : ∃ z, z = dval (l.set i c) := ⟨_, rfl⟩
  rw [← hz] at hds hE
  -- how z stands to n
  have hlast : i = 12 → z / 10 = n / 10 ∧ z % 10 = c.toNat - 48 ∧ n % 10 = a.toNat - 48 := fun q => by
    subst q
    have hp : (10 : Nat) ^ (13 - 1 - 12) = 1 := rfl
    rw [hp] at hds
    have h12 := (dval_cut l 12 hd).2
    rw [hl, hv] at h12
    have hdl : l.drop 12 = [a] := by
      rw [List.drop_eq_getElem_cons (by omega : 12 < l.length), hai, List.drop_eq_nil_of_le (by omega)]
    rw [hdl] at h12
    have e : dval [a] = a.toNat - 48 := by simp [dval]
    rw [e] at h12
    have : (10 : Nat) ^ (13 - 12) = 10 := rfl
    omega
  have hmid : i < 12 → z % 10 = n % 10 ∧ (z / 10 % 7 = n / 10 % 7 ↔ a.toNat = c.toNat ∨ a.toNat = c.toNat + 7 ∨ c.toNat = a.toNat + 7) := fun q => by
    obtain ⟨k, hk⟩ : ∃ k, 13 - 1 - i = k + 1 := ⟨11 - i, by omega⟩
    rw [hk, Nat.pow_succ] at hds
    have e1 : (a.toNat - 48) * (10 ^ k * 10) = (a.toNat - 48) * 10 ^ k * 10 := by rw [Nat.mul_assoc]
    have e2 : (c.toNat - 48) * (10 ^ k * 10) = (c.toNat - 48) * 10 ^ k * 10 := by rw [Nat.mul_assoc]
    rw [e1, e2] at hds
    obtain ⟨A, hA⟩ : ∃ A, A = (a.toNat - 48) * 10 ^ k := ⟨_, rfl⟩
    obtain ⟨C, hC⟩ : ∃ C, C = (c.toNat - 48) * 10 ^ k := ⟨_, rfl⟩
    rw [← hA, ← hC] at hds
    have h1 : z / 10 + A = n / 10 + C := by omega
    refine ⟨by omega, ?_⟩
    rw [hA, hC] at h1
    rw [ten_seven k h1 (by omega) (by omega)]
    omega
  refine ⟨fun q => ?_, fun q1 q2 q3 => ?_, fun q1 q2 q3 => ?_, fun q1 q2 q3 => ?_⟩
  · have e : l.set i c = l := by
      rw [← q]
      apply List.ext_getElem?
      intro j
      rw [List.getElem?_set]
      split
      · rename_i hj
        subst hj
        rw [if_pos (by omega), ha]
      · rfl
    rw [e, hll]
    exact of_txt h
  · subst q1
    subst q2
    unfold ofE
    rw [if_neg (by rw [hsl, hsd]; simp), if_pos]
    match l, hl with
    | x :: r, _ => rfl
  · rw [hE q2]
    by_cases h12 : i < 12
    · obtain ⟨m1, m2⟩ := hmid h12
      rw [if_pos h12, if_neg]
      rw [m1, m2.2 (.inr q3)]
      exact fun q => q h10
    · obtain ⟨m1, m2, m3⟩ := hlast (by omega)
      rw [if_neg h12, if_pos]
      rw [m1, m2]
      omega
  · rw [hE q2]
    by_cases h12 : i < 12
    · obtain ⟨m1, m2⟩ := hmid h12
      rw [if_pos]
      rw [m1, ← h10]
      intro q
      rcases m2.1 q with q | q
      · exact hne.1 q1 q
      · exact q3 q
    · obtain ⟨m1, m2, m3⟩ := hlast (by omega)
      rw [if_pos]
      rw [m1, m2]
      have := hne.1 q1
      omega
/-- Stocks. -/
def mayS (c f k : Int) : Bool := decide (100 ≤ c ∧ c ≤ 999 ∧ 0 ≤ f ∧ f ≤ 999999999 ∧ 1 ≤ k ∧ k ≤ 1000000000 - f)
def inS (c f k : Int) (n : Nat) : Bool := mayS c f k && decide ((carN n : Int) = c ∧ f ≤ (serN n : Int) ∧ (serN n : Int) < f + k)
end Go.Proofs.Ytchofmncinbmcaa
