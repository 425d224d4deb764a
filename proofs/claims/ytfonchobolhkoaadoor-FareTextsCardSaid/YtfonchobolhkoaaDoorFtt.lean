/- Amounts' texts, plainly: no program. -/
import Derived.Test.YtfonchobolhkoaaDoorFdl
namespace Go.Proofs.YtfonchobolhkoaaDoor

/-- So many digits. -/
def padL (n : Nat) : Nat → List UInt8
  | 0 => []
  | m + 1 => padL (n / 10) m ++ [UInt8.ofNat (48 + n % 10)]
theorem padL_len (m : Nat) : ∀ n, (padL n m).length = m := by
  induction m with
  | zero => intro n; rfl
  | succ m ih => intro n; simp [padL, ih]
theorem isDig_of {k : Nat} (h : k < 10) : isDig (UInt8.ofNat (48 + k)) = true := by
  unfold isDig
  rw [toNat_dig k h, decide_eq_true_eq]
  omega
theorem padL_dig (m : Nat) : ∀ n, (padL n m).all isDig = true := by
  induction m with
  | zero => intro n; rfl
  | succ m ih => intro n; simp only [padL, List.all_append, ih, List.all_cons, List.all_nil, isDig_of (Nat.mod_lt n (by omega : 0 < 10))]; rfl
theorem padL_dval (m : Nat) : ∀ n, dval (padL n m) = n % 10 ^ m := by
  induction m with
  | zero => intro n; simp [padL, dval, Nat.mod_one]
  | succ m ih =>
    intro n
    rw [padL, dval_snoc, ih, toNat_dig _ (Nat.mod_lt n (by omega))]
    have := Nat.mod_mul (x := n) (a := 10) (b := 10 ^ m)
    rw [Nat.pow_succ, Nat.mul_comm (10 ^ m) 10, this]
    omega
theorem padL_split (a : Nat) : ∀ (b n : Nat), padL n (a + b) = padL (n / 10 ^ b) a ++ padL n b := by
  intro b
  induction b with
  | zero => intro n; simp [padL]
  | succ b ih =>
    intro n
    rw [← Nat.add_assoc, padL, ih, padL, ← List.append_assoc, Nat.div_div_eq_div_mul, Nat.pow_succ, Nat.mul_comm 10]
theorem padL_cons (n k : Nat) : padL n (k + 1) = UInt8.ofNat (48 + n / 10 ^ k % 10) :: padL n k := by
  have := padL_split 1 k n
  rw [Nat.add_comm 1 k] at this
  rw [this]
  simp [padL]
/-- Digits, the first of which is no nought, are their number's. -/
theorem txt_dval : ∀ (m : Nat) (l : List UInt8), l.length = m + 1 → l.all isDig = true → (m = 0 ∨ l.head? ≠ some 48) → txt (dval l) = l := by
  intro m
  induction m with
  | zero =>
    intro l hl hd _
    match l, hl with
    | [c], _ =>
      have hc : 48 ≤ c.toNat ∧ c.toNat ≤ 57 := by simpa [isDig] using hd
      have e : dval [c] = c.toNat - 48 := by simp [dval]
      rw [e, txt_lt _ (by omega)]
      congr 1
      apply UInt8.toNat_inj.1
      rw [toNat_dig _ (by omega)]
      omega
  | succ m ih =>
    intro l hl hd hh
    rcases List.eq_nil_or_concat l with rfl | ⟨p, c, rfl⟩
    · simp at hl
    · simp only [List.concat_eq_append, List.length_append, List.length_cons, List.length_nil] at hl
      simp only [List.concat_eq_append, List.all_append, List.all_cons, List.all_nil, Bool.and_true, Bool.and_eq_true] at hd
      have hp : p.length = m + 1 := by omega
      have hph : p.head? ≠ some 48 := by
        rcases hh with h | h
        · omega
        · match p, hp with
          | a :: q, _ => simpa using h
      have hc : 48 ≤ c.toNat ∧ c.toNat ≤ 57 := by simpa [isDig] using hd.2
      have h1 := ih p hp hd.1 (.inr hph)
      have hpos : 1 ≤ dval p := by
        match p, hp, hph with
        | a :: q, _, hph =>
          have := dval_ge a q hd.1 (by simpa using hph)
          have h10 : 0 < 10 ^ q.length := Nat.pow_pos (by omega)
          omega
      rw [List.concat_eq_append, dval_snoc, txt_ge _ (by omega)]
      have e1 : (dval p * 10 + (c.toNat - 48)) / 10 = dval p := by omega
      have e2 : (dval p * 10 + (c.toNat - 48)) % 10 = c.toNat - 48 := by omega
      rw [e1, e2, h1]
      congr 2
      apply UInt8.toNat_inj.1
      rw [toNat_dig _ (by omega)]
      omega
/-- As few digits as can be, but so many at least. -/
def DigsK (n least K : Nat) : Prop := least ≤ K ∧ n / 10 ^ K = 0 ∧ (K = least ∨ 0 < n / 10 ^ (K - 1))
theorem digs_one {n K : Nat} (h : DigsK n 1 K) : padL n K = txt n := by
  obtain ⟨h1, h2, h3⟩ := h
  obtain ⟨m, rfl⟩ : ∃ m, K = m + 1 := ⟨K - 1, by omega⟩
  have hlt : n < 10 ^ (m + 1) := by
    rcases Nat.lt_or_ge n (10 ^ (m + 1)) with q | q
    · exact q
    · have := Nat.div_pos q (Nat.pow_pos (by omega : 0 < 10)); omega
  have hv : dval (padL n (m + 1)) = n := by rw [padL_dval, Nat.mod_eq_of_lt hlt]
  have := txt_dval m (padL n (m + 1)) (padL_len _ _) (padL_dig _ _) (by
    rcases h3 with q | q
    · exact .inl (by omega)
    · rw [Nat.add_sub_cancel] at q
      refine .inr ?_
      rw [padL_cons]
      intro e
      have e2 : UInt8.ofNat (48 + n / 10 ^ m % 10) = 48 := by simpa using e
      have e3 := congrArg UInt8.toNat e2
      rw [toNat_dig _ (by omega)] at e3
      have h48 : (48 : UInt8).toNat = 48 := rfl
      have h9 : n / 10 ^ m < 10 := by
        rw [Nat.div_lt_iff_lt_mul (Nat.pow_pos (by omega))]
        rw [Nat.pow_succ] at hlt
        omega
      omega)
  rw [hv] at this
  exact this.symm
theorem digs_two {n K : Nat} (hn : n < 100) (h : DigsK n 2 K) : K = 2 := by
  obtain ⟨h1, h2, h3⟩ := h
  rcases h3 with q | q
  · exact q
  · apply Decidable.byContradiction
    intro hne
    have h10 : 10 ^ 2 ≤ 10 ^ (K - 1) := Nat.pow_le_pow_right (by omega) (by omega)
    have : n / 10 ^ (K - 1) = 0 := Nat.div_eq_of_lt (by have : (10 : Nat) ^ 2 = 100 := rfl; omega)
    omega
/-- An amount's text. -/
def textN (a : Nat) : List UInt8 := txt (a / 100) ++ (46 :: padL (a % 100) 2)
def textF (n : Int) : List UInt8 := if n < 0 then 45 :: textN n.natAbs else textN n.natAbs
/-- A text without its sign. -/
def bodyOf (l : List UInt8) : List UInt8 := if l.head? = some 45 then l.tail else l
/-- Its digits, the dot left out. -/
def digsOf (t : List UInt8) : List UInt8 := t.take (t.length - 3) ++ t.drop (t.length - 2)
def bodyOk (t : List UInt8) : Bool := decide (4 ≤ t.length) && decide (t[t.length - 3]? = some 46) && (decide (t.length = 4) || decide (t.head? ≠ some 48)) && (digsOf t).all isDig
def formB (l : List UInt8) : Bool := bodyOk (bodyOf l) && decide (l ≠ [45, 48, 46, 48, 48])
def ofFE (l : List UInt8) : Nat := if formB l then (if 1000000000000 < dval (digsOf (bodyOf l)) then 14 else 0) else 4
def ofFN (l : List UInt8) : Int := if ofFE l = 0 then (if l.head? = some 45 then -(dval (digsOf (bodyOf l)) : Int) else (dval (digsOf (bodyOf l)) : Int)) else 0
theorem textN_digs (a : Nat) : digsOf (textN a) = txt (a / 100) ++ padL (a % 100) 2 ∧ (textN a)[(textN a).length - 3]? = some 46 ∧ 4 ≤ (textN a).length := by
  have hl : (textN a).length = (txt (a / 100)).length + 3 := by simp [textN, padL_len]
  have hne : (txt (a / 100)).length ≠ 0 := by have := (txt_digs (a / 100)).2.2; simpa using this
  refine ⟨?_, ?_, by omega⟩
  · unfold digsOf
    rw [hl, show (txt (a / 100)).length + 3 - 3 = (txt (a / 100)).length by omega, show (txt (a / 100)).length + 3 - 2 = (txt (a / 100)).length + 1 by omega]
    unfold textN
    rw [List.take_left', List.drop_append]
    · simp
    · rfl
  · rw [hl, show (txt (a / 100)).length + 3 - 3 = (txt (a / 100)).length by omega]
    unfold textN
    rw [List.getElem?_append_right (Nat.le_refl _)]
    simp
theorem txt_head0 (n : Nat) : (txt n).head? = some 48 → (txt n).length = 1 := by
  intro h
  rcases Nat.lt_or_ge n 10 with q | q
  · rw [txt_lt n q]; rfl
  · exact absurd h (txt_head n (by omega))
theorem textN_ok (a : Nat) : bodyOk (textN a) = true ∧ dval (digsOf (textN a)) = a := by
  obtain ⟨h1, h2, h3⟩ := textN_digs a
  have hd := (txt_digs (a / 100)).1
  have hv := (txt_digs (a / 100)).2.1
  refine ⟨?_, ?_⟩
  · unfold bodyOk
    rw [h1, h2, List.all_append, hd, padL_dig]
    have h4 : (decide ((textN a).length = 4) || decide ((textN a).head? ≠ some 48)) = true := by
      by_cases q : (textN a).head? = some 48
      · have : (txt (a / 100)).head? = some 48 := by
          have hne := (txt_digs (a / 100)).2.2
          unfold textN at q
          cases hh : txt (a / 100) with
          | nil => exact absurd hh hne
          | cons c l => rw [hh] at q; simpa using q
        have h5 := txt_head0 _ this
        have : (textN a).length = 4 := by simp [textN, padL_len, h5]
        simp [this]
      · simp [q]
    rw [h4]
    simp [h3]
  · rw [h1, dval_app, hv, padL_dval, padL_len]
    have : (10 : Nat) ^ 2 = 100 := rfl
    omega
theorem textN_head (a : Nat) : (textN a).head? ≠ some 45 := by
  have hd := (txt_digs (a / 100)).1
  have hne := (txt_digs (a / 100)).2.2
  unfold textN
  cases hh : txt (a / 100) with
  | nil => exact absurd hh hne
  | cons c l =>
    rw [hh] at hd
    simp only [List.all_cons, Bool.and_eq_true] at hd
    have hc : 48 ≤ c.toNat ∧ c.toNat ≤ 57 := by simpa [isDig] using hd.1
    intro e
    have e2 : c = 45 := by simpa using e
    subst e2
    have : (45 : UInt8).toNat = 45 := rfl
    omega
theorem textF_of {n : Int} (h : -1000000000000 ≤ n ∧ n ≤ 1000000000000) : ofFE (textF n) = 0 ∧ ofFN (textF n) = n := by
  obtain ⟨h1, h2⟩ := textN_ok n.natAbs
  have hh := textN_head n.natAbs
  by_cases hn : n < 0
  · have hb : bodyOf (45 :: textN n.natAbs) = textN n.natAbs := by simp [bodyOf]
    have hf : formB (45 :: textN n.natAbs) = true := by
      unfold formB
      rw [hb, h1]
      have hne : (45 :: textN n.natAbs) ≠ [45, 48, 46, 48, 48] := by
        intro e
        have e2 : textN n.natAbs = [48, 46, 48, 48] := by injection e
        rw [e2] at h2
        have : dval (digsOf [48, 46, 48, 48]) = 0 := by decide
        omega
      simp [hne]
    have he : ofFE (45 :: textN n.natAbs) = 0 := by
      unfold ofFE
      rw [hf, hb, h2, if_pos rfl, if_neg (by omega)]
    unfold textF
    rw [if_pos hn]
    refine ⟨he, ?_⟩
    unfold ofFN
    rw [he, hb, h2]
    simp
    omega
  · have hb : bodyOf (textN n.natAbs) = textN n.natAbs := by unfold bodyOf; rw [if_neg hh]
    have hf : formB (textN n.natAbs) = true := by
      unfold formB
      rw [hb, h1]
      have hne : textN n.natAbs ≠ [45, 48, 46, 48, 48] := by
        intro e
        rw [e] at hh
        exact hh rfl
      simp [hne]
    have he : ofFE (textN n.natAbs) = 0 := by
      unfold ofFE
      rw [hf, hb, h2, if_pos rfl, if_neg (by omega)]
    unfold textF
    rw [if_neg hn]
    refine ⟨he, ?_⟩
    unfold ofFN
    rw [he, hb, h2, if_pos rfl, if_neg hh]
    omega
end Go.Proofs.YtfonchobolhkoaaDoor
