/- Decimal digits, plainly: no program. -/
import GoSem.Op.String
namespace Go.Proofs.Ythmjfbefekicdaa

def isDig (c : UInt8) : Bool := decide (48 ≤ c.toNat ∧ c.toNat ≤ 57)
/-- What digits come to. -/
def dval (l : List UInt8) : Nat := l.foldl (fun n c => n * 10 + (c.toNat - 48)) 0
/-- Are they a number's digits? -/
def mayB (l : List UInt8) : Bool := l.all isDig && (l == [48] || (!l.isEmpty && !(l.head? == some 48)))
/-- A number's digits. -/
def txt (n : Nat) : List UInt8 := if n < 10 then [UInt8.ofNat (48 + n)] else txt (n / 10) ++ [UInt8.ofNat (48 + n % 10)]
termination_by n
decreasing_by omega

theorem dval_from (l : List UInt8) : ∀ n, l.foldl (fun n c => n * 10 + (c.toNat - 48)) n = n * 10 ^ l.length + dval l := by
  induction l with
  | nil => intro n; simp [dval]
  | cons c l ih =>
    intro n
    simp only [List.foldl_cons, List.length_cons, dval]
    rw [ih, ih, Nat.zero_mul, Nat.zero_add, Nat.pow_succ', Nat.add_mul, Nat.mul_assoc, Nat.add_assoc]
theorem dval_app (p q : List UInt8) : dval (p ++ q) = dval p * 10 ^ q.length + dval q := by
  unfold dval
  rw [List.foldl_append, dval_from]
  rfl
theorem dval_cons (c : UInt8) (l : List UInt8) : dval (c :: l) = (c.toNat - 48) * 10 ^ l.length + dval l := by
  rw [show c :: l = [c] ++ l from rfl, dval_app]
  simp [dval]
theorem dval_snoc (l : List UInt8) (c : UInt8) : dval (l ++ [c]) = dval l * 10 + (c.toNat - 48) := by
  rw [dval_app]
  simp [dval]
theorem dval_lt (l : List UInt8) (h : l.all isDig = true) : dval l < 10 ^ l.length := by
  induction l with
  | nil => simp [dval]
  | cons c l ih =>
    simp only [List.all_cons, Bool.and_eq_true] at h
    have hc : 48 ≤ c.toNat ∧ c.toNat ≤ 57 := of_decide_eq_true h.1
    have := ih h.2
    rw [dval_cons, List.length_cons, Nat.pow_succ']
    have h9 : (c.toNat - 48) * 10 ^ l.length ≤ 9 * 10 ^ l.length := Nat.mul_le_mul_right _ (by omega)
    omega
theorem dval_ge (c : UInt8) (l : List UInt8) (h : (c :: l).all isDig = true) (hc : c ≠ 48) : 10 ^ l.length ≤ dval (c :: l) := by
  simp only [List.all_cons, Bool.and_eq_true] at h
  have hd : 48 ≤ c.toNat ∧ c.toNat ≤ 57 := of_decide_eq_true h.1
  have hne : c.toNat ≠ 48 := fun e => hc (UInt8.toNat_inj.1 (by simpa using e))
  rw [dval_cons]
  have : 1 * 10 ^ l.length ≤ (c.toNat - 48) * 10 ^ l.length := Nat.mul_le_mul_right _ (by omega)
  omega

theorem toNat_dig (k : Nat) (h : k < 10) : (UInt8.ofNat (48 + k)).toNat = 48 + k := by
  rw [UInt8.toNat_ofNat']
  omega
theorem txt_lt (n : Nat) (h : n < 10) : txt n = [UInt8.ofNat (48 + n)] := by rw [txt, if_pos h]
theorem txt_ge (n : Nat) (h : ¬ n < 10) : txt n = txt (n / 10) ++ [UInt8.ofNat (48 + n % 10)] := by rw [txt, if_neg h]
theorem txt_digs (n : Nat) : (txt n).all isDig = true ∧ dval (txt n) = n ∧ txt n ≠ [] := by
  induction n using Nat.strongRecOn with
  | ind n ih =>
    by_cases h : n < 10
    · rw [txt_lt n h]
      have := toNat_dig n h
      refine ⟨?_, ?_, by simp⟩
      · simp only [List.all_cons, List.all_nil, Bool.and_true, isDig, decide_eq_true_eq, this]; omega
      · simp only [dval, List.foldl_cons, List.foldl_nil, this]; omega
    · rw [txt_ge n h]
      obtain ⟨h1, h2, h3⟩ := ih (n / 10) (by omega)
      have := toNat_dig (n % 10) (by omega)
      refine ⟨?_, ?_, by simp⟩
      · simp only [List.all_append, h1, Bool.true_and, List.all_cons, List.all_nil, Bool.and_true, isDig, decide_eq_true_eq, this]; omega
      · rw [dval_snoc, h2, this]; omega
theorem txt_head (n : Nat) (h : 0 < n) : (txt n).head? ≠ some 48 := by
  induction n using Nat.strongRecOn with
  | ind n ih =>
    by_cases h10 : n < 10
    · rw [txt_lt n h10]
      have e := toNat_dig n h10
      intro hq
      simp only [List.head?_cons, Option.some.injEq] at hq
      rw [hq] at e
      simp at e
      omega
    · rw [txt_ge n h10]
      have h3 := (txt_digs (n / 10)).2.2
      have := ih (n / 10) (by omega) (by omega)
      cases ht : txt (n / 10) with
      | nil => exact absurd ht h3
      | cons c r => rw [ht] at this; simpa using this
theorem txt_zero : txt 0 = [48] := by rw [txt_lt 0 (by omega)]; rfl
theorem txt_may (n : Nat) : mayB (txt n) = true := by
  obtain ⟨h1, _, h3⟩ := txt_digs n
  unfold mayB
  rw [h1, Bool.true_and, Bool.or_eq_true]
  rcases Nat.eq_zero_or_pos n with rfl | h
  · left; rw [txt_zero]; rfl
  · right
    have := txt_head n h
    cases ht : txt n with
    | nil => exact absurd ht h3
    | cons c r => rw [ht] at this; simpa using this

/-- What a canonical text is: a nought, or it begins with another digit. -/
theorem mayB_form {l : List UInt8} (h : mayB l = true) : l.all isDig = true ∧ (l = [48] ∨ ∃ c r, l = c :: r ∧ c ≠ 48) := by
  unfold mayB at h
  rw [Bool.and_eq_true, Bool.or_eq_true] at h
  refine ⟨h.1, ?_⟩
  rcases h.2 with h | h
  · exact .inl (by simpa using h)
  · cases l with
    | nil => simp at h
    | cons c r => exact .inr ⟨c, r, rfl, by simpa using h⟩

/-- Texts of one length stand as their numbers do. -/
theorem less_iff : ∀ (a b : List UInt8), a.length = b.length → a.all isDig = true → b.all isDig = true → (Op.bytesLess a b = true ↔ dval a < dval b)
  | [], [], _, _, _ => by simp [Op.bytesLess, dval]
  | [], _ :: _, h, _, _ => by simp at h
  | _ :: _, [], h, _, _ => by simp at h
  | x :: a, y :: b, h, ha, hb => by
    have hl : a.length = b.length := by simpa using h
    have hda := ha
    have hdb := hb
    simp only [List.all_cons, Bool.and_eq_true] at ha hb
    have ih := less_iff a b hl ha.2 hb.2
    have hx : 48 ≤ x.toNat ∧ x.toNat ≤ 57 := of_decide_eq_true ha.1
    have hy : 48 ≤ y.toNat ∧ y.toNat ≤ 57 := of_decide_eq_true hb.1
    have la := dval_lt a ha.2
    have lb := dval_lt b hb.2
    rw [dval_cons, dval_cons, hl]
    rw [hl] at la
    simp only [Op.bytesLess, Bool.or_eq_true, Bool.and_eq_true, decide_eq_true_eq, beq_iff_eq]
    rw [ih, UInt8.lt_iff_toNat_lt]
    generalize 10 ^ b.length = M at *
    constructor
    · rintro (h | ⟨rfl, h⟩)
      · have : (x.toNat - 48 + 1) * M ≤ (y.toNat - 48) * M := Nat.mul_le_mul_right _ (by omega)
        rw [Nat.add_mul, Nat.one_mul] at this
        omega
      · omega
    · intro h
      rcases Nat.lt_trichotomy x.toNat y.toNat with q | q | q
      · exact .inl q
      · refine .inr ⟨UInt8.toNat_inj.1 q, ?_⟩
        rw [q] at h
        omega
      · have : (y.toNat - 48 + 1) * M ≤ (x.toNat - 48) * M := Nat.mul_le_mul_right _ (by omega)
        rw [Nat.add_mul, Nat.one_mul] at this
        omega

/-- Is a text, digits of it, more than another one? -/
def aboveB (a b : List UInt8) : Bool := decide (b.length < a.length) || (decide (a.length = b.length) && !(Op.bytesLess a b || a == b))

theorem len_le {a b : List UInt8} (ha : mayB a = true) (hb : mayB b = true) (h : b.length < a.length) : dval b < dval a := by
  obtain ⟨da, fa⟩ := mayB_form ha
  obtain ⟨db, fb⟩ := mayB_form hb
  have hb1 : 1 ≤ b.length := by rcases fb with rfl | ⟨c, r, rfl, _⟩ <;> simp
  have h1 := dval_lt b db
  rcases fa with rfl | ⟨c, r, rfl, hc⟩
  · simp only [List.length_cons, List.length_nil] at h; omega
  · have h2 := dval_ge c r da hc
    simp only [List.length_cons] at h
    have := Nat.pow_le_pow_right (show 0 < 10 by omega) (show b.length ≤ r.length by omega)
    omega

theorem above_iff {a b : List UInt8} (ha : mayB a = true) (hb : mayB b = true) : aboveB a b = decide (dval b < dval a) := by
  rw [Bool.eq_iff_iff, decide_eq_true_eq]
  unfold aboveB
  rw [Bool.or_eq_true, Bool.and_eq_true, decide_eq_true_eq, decide_eq_true_eq]
  rcases Nat.lt_trichotomy a.length b.length with h | h | h
  · have := len_le hb ha h
    constructor
    · rintro (q | ⟨q, _⟩) <;> omega
    · intro q; omega
  · have hd := less_iff a b h (mayB_form ha).1 (mayB_form hb).1
    have hd' := less_iff b a h.symm (mayB_form hb).1 (mayB_form ha).1
    have he : ∀ (x y : List UInt8), x.length = y.length → x.all isDig = true → y.all isDig = true → dval x = dval y → x = y := by
      intro x
      induction x with
      | nil => intro y hl _ _ _; exact (List.eq_nil_of_length_eq_zero (by simpa using hl.symm)).symm
      | cons c x ih =>
        intro y hl hx hy hv
        cases y with
        | nil => simp at hl
        | cons d y =>
          have hl' : x.length = y.length := by simpa using hl
          simp only [List.all_cons, Bool.and_eq_true] at hx hy
          have hc : 48 ≤ c.toNat ∧ c.toNat ≤ 57 := of_decide_eq_true hx.1
          have hdd : 48 ≤ d.toNat ∧ d.toNat ≤ 57 := of_decide_eq_true hy.1
          have lx := dval_lt x hx.2
          have ly := dval_lt y hy.2
          rw [dval_cons, dval_cons, hl'] at hv
          rw [hl'] at lx
          generalize hM : 10 ^ y.length = M at *
          have hcd : c.toNat = d.toNat := by
            rcases Nat.lt_trichotomy c.toNat d.toNat with q | q | q
            · have : (c.toNat - 48 + 1) * M ≤ (d.toNat - 48) * M := Nat.mul_le_mul_right _ (by omega)
              rw [Nat.add_mul, Nat.one_mul] at this
              omega
            · exact q
            · have : (d.toNat - 48 + 1) * M ≤ (c.toNat - 48) * M := Nat.mul_le_mul_right _ (by omega)
              rw [Nat.add_mul, Nat.one_mul] at this
              omega
          have e1 : c = d := UInt8.toNat_inj.1 hcd
          rw [hcd] at hv
          rw [e1, ih y hl' hx.2 hy.2 (by omega)]
    constructor
    · rintro (q | ⟨_, q⟩)
      · omega
      · rw [Bool.not_eq_true', Bool.or_eq_false_iff] at q
        have h1 : ¬ dval a < dval b := fun hh => by rw [hd.2 hh] at q; cases q.1
        have h2 : dval a ≠ dval b := fun hh => by
          have := he a b h (mayB_form ha).1 (mayB_form hb).1 hh
          rw [this] at q
          simp at q
        omega
    · intro q
      refine .inr ⟨h, ?_⟩
      rw [Bool.not_eq_true', Bool.or_eq_false_iff]
      refine ⟨?_, ?_⟩
      · rw [Bool.eq_false_iff]
        intro hh
        have := hd.1 hh
        omega
      · rw [beq_eq_false_iff_ne]
        rintro rfl
        omega
  · have := len_le ha hb h
    constructor
    · intro _; exact this
    · intro _; exact .inl h
end Go.Proofs.Ythmjfbefekicdaa
