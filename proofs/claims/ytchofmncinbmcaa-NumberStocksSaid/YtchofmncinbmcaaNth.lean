/- Ticket numbers, plainly: no program. -/
import Derived.Test.YtchofmncinbmcaaNba
namespace Go.Proofs.Ytchofmncinbmcaa

/-- A carrier's and a serial's number. -/
def mkN (c s : Nat) : Nat := (c * 1000000000 + s) * 10 + (c * 1000000000 + s) % 7
def mayC (c : Int) : Bool := decide (100 ≤ c ∧ c ≤ 999)
def mayCS (c s : Int) : Bool := decide (100 ≤ c ∧ c ≤ 999 ∧ 0 ≤ s ∧ s ≤ 999999999)
/-- What Make answers. -/
def makeN (c s : Int) : Nat := if mayCS c s then mkN c.toNat s.toNat else 0
def makeE (c s : Int) : Int := if mayCS c s then 0 else 2
/-- Why a number is no ticket number. -/
def chkE (n : Nat) : Nat := if n < 1000000000000 ∨ 9999999999999 < n then 2 else if n / 10 % 7 ≠ n % 10 then 11 else 0
def carN (n : Nat) : Nat := if chkE n = 0 then n / 10000000000 else 0
def serN (n : Nat) : Nat := if chkE n = 0 then n / 10 % 1000000000 else 0
def ofE (l : List UInt8) : Nat := if l.length ≠ 13 ∨ l.all isDig = false then 4 else if l.head? = some 48 then 2 else if dval (l.take 12) % 7 ≠ dval (l.drop 12) then 11 else 0
def ofN (l : List UInt8) : Nat := if ofE l = 0 then dval l else 0
/-- So many digits. -/
def padL (n : Nat) : Nat → List UInt8
  | 0 => []
  | m + 1 => padL (n / 10) m ++ [UInt8.ofNat (48 + n % 10)]
theorem padL_len (m : Nat) : ∀ n, (padL n m).length = m := by
  induction m with
  | zero => intro n; rfl
  | succ m ih => intro n; simp [padL, ih]
theorem isDig_of {k : Nat} (h : k < 10) : isDig (UInt8.ofNat (48 + k)) = true := by
  unfold isDig
  rw [toNat_dig k h, decide_eq_true_eq]
  omega
theorem padL_dig (m : Nat) : ∀ n, (padL n m).all isDig = true := by
  induction m with
  | zero => intro n; rfl
  | succ m ih => intro n; simp only [padL, List.all_append, ih, List.all_cons, List.all_nil, isDig_of (Nat.mod_lt n (by omega : 0 < 10))]; rfl
theorem padL_dval (m : Nat) : ∀ n, dval (padL n m) = n % 10 ^ m := by
  induction m with
  | zero => intro n; simp [padL, dval, Nat.mod_one]
  | succ m ih =>
    intro n
    rw [padL, dval_snoc, ih, toNat_dig _ (Nat.mod_lt n (by omega))]
    have := Nat.mod_mul (x := n) (a := 10) (b := 10 ^ m)
    rw [Nat.pow_succ, Nat.mul_comm (10 ^ m) 10, this]
    omega
/-- One step more, from the right. -/
theorem padL_step (n m : Nat) : padL n (m + 1) = padL (n / 10) m ++ [UInt8.ofNat (48 + n % 10)] := rfl
/-- What has been made of k places is the end of all. -/
theorem padL_split (a : Nat) : ∀ (b n : Nat), padL n (a + b) = padL (n / 10 ^ b) a ++ padL n b := by
  intro b
  induction b with
  | zero => intro n; simp [padL]
  | succ b ih =>
    intro n
    rw [← Nat.add_assoc, padL, ih, padL, ← List.append_assoc, Nat.div_div_eq_div_mul, Nat.pow_succ, Nat.mul_comm 10]
theorem padL_cons (n k : Nat) : padL n (k + 1) = UInt8.ofNat (48 + n / 10 ^ k % 10) :: padL n k := by
  have := padL_split 1 k n
  rw [Nat.add_comm 1 k] at this
  rw [this]
  simp [padL]
/-- Digits, the first of which is no nought, are their number's. -/
theorem txt_dval : ∀ (m : Nat) (l : List UInt8), l.length = m + 1 → l.all isDig = true → (m = 0 ∨ l.head? ≠ some 48) → txt (dval l) = l := by
  intro m
  induction m with
  | zero =>
    intro l hl hd _
    match l, hl with
    | [c], _ =>
      have hc : 48 ≤ c.toNat ∧ c.toNat ≤ 57 := by simpa [isDig] using hd
      have e : dval [c] = c.toNat - 48 := by simp [dval]
      rw [e, txt_lt _ (by omega)]
      congr 1
      apply UInt8.toNat_inj.1
      rw [toNat_dig _ (by omega)]
      omega
  | succ m ih =>
    intro l hl hd hh
    rcases List.eq_nil_or_concat l with rfl | ⟨p, c, rfl⟩
    · simp at hl
    · simp only [List.concat_eq_append, List.length_append, List.length_cons, List.length_nil] at hl
      simp only [List.concat_eq_append, List.all_append, List.all_cons, List.all_nil, Bool.and_true, Bool.and_eq_true] at hd
      have hp : p.length = m + 1 := by omega
      have hph : p.head? ≠ some 48 := by
        rcases hh with h | h
        · omega
        · match p, hp with
          | a :: q, _ => simpa using h
      have hc : 48 ≤ c.toNat ∧ c.toNat ≤ 57 := by simpa [isDig] using hd.2
      have h1 := ih p hp hd.1 (.inr hph)
      have hpos : 1 ≤ dval p := by
        match p, hp, hph with
        | a :: q, _, hph =>
          have := dval_ge a q hd.1 (by simpa using hph)
          have h10 : 0 < 10 ^ q.length := Nat.pow_pos (by omega)
          omega
      rw [List.concat_eq_append, dval_snoc, txt_ge _ (by omega)]
      have e1 : (dval p * 10 + (c.toNat - 48)) / 10 = dval p := by omega
      have e2 : (dval p * 10 + (c.toNat - 48)) % 10 = c.toNat - 48 := by omega
      rw [e1, e2, h1]
      congr 2
      apply UInt8.toNat_inj.1
      rw [toNat_dig _ (by omega)]
      omega
theorem mkN_div (c s : Nat) : mkN c s / 10 = c * 1000000000 + s ∧ mkN c s % 10 = (c * 1000000000 + s) % 7 := by
  unfold mkN
  generalize c * 1000000000 + s = t
  omega
theorem mkN_lt {c s : Nat} (h1 : 100 ≤ c) (h2 : c ≤ 999) (h3 : s ≤ 999999999) : 1000000000000 ≤ mkN c s ∧ mkN c s ≤ 9999999999999 := by
  unfold mkN
  omega
theorem mkN_parts {c s : Nat} (h1 : 100 ≤ c) (h2 : c ≤ 999) (h3 : s ≤ 999999999) : chkE (mkN c s) = 0 ∧ carN (mkN c s) = c ∧ serN (mkN c s) = s := by
  have h := mkN_lt h1 h2 h3
  have hc : chkE (mkN c s) = 0 := by
    unfold chkE
    rw [if_neg (by omega), (mkN_div c s).1, (mkN_div c s).2, if_neg (fun q => q rfl)]
  unfold carN serN
  rw [if_pos hc, if_pos hc]
  refine ⟨hc, ?_, ?_⟩
  · rw [show (10000000000 : Nat) = 10 * 1000000000 from rfl, ← Nat.div_div_eq_div_mul, (mkN_div c s).1]
    omega
  · rw [(mkN_div c s).1]
    omega
/-- A ticket number is its parts'. -/
theorem mkN_of {n : Nat} (h : chkE n = 0) : 100 ≤ carN n ∧ carN n ≤ 999 ∧ serN n ≤ 999999999 ∧ mkN (carN n) (serN n) = n := by
  unfold carN serN
  rw [if_pos h, if_pos h]
  unfold chkE at h
  split at h
  · omega
  · split at h
    · omega
    · rename_i h1 h2
      have e : n / 10000000000 = n / 10 / 1000000000 := by rw [Nat.div_div_eq_div_mul]
      have e2 : n / 10 = n / 10 / 1000000000 * 1000000000 + n / 10 % 1000000000 := by omega
      have h3 : n / 10 % 7 = n % 10 := Decidable.not_not.1 h2
      rw [e]
      refine ⟨by omega, by omega, by omega, ?_⟩
      unfold mkN
      rw [← e2, h3]
      omega
/-- The text of a carrier and a serial. -/
def textL (c s : Nat) : List UInt8 := padL c 3 ++ padL s 9 ++ [UInt8.ofNat (48 + dval (padL c 3 ++ padL s 9) % 7)]
theorem twelve_dval {c s : Nat} (h2 : c ≤ 999) (h3 : s ≤ 999999999) : dval (padL c 3 ++ padL s 9) = c * 1000000000 + s := by
  rw [dval_app, padL_dval, padL_dval, padL_len]
  have : (10 : Nat) ^ 3 = 1000 := rfl
  have : (10 : Nat) ^ 9 = 1000000000 := rfl
  omega
theorem textL_facts {c s : Nat} (h1 : 100 ≤ c) (h2 : c ≤ 999) (h3 : s ≤ 999999999) : (textL c s).length = 13 ∧ (textL c s).all isDig = true ∧ (textL c s).head? ≠ some 48 ∧ dval (textL c s) = mkN c s := by
  have hd7 : dval (padL c 3 ++ padL s 9) % 7 < 10 := by omega
  refine ⟨?_, ?_, ?_, ?_⟩
  · simp [textL, padL_len]
  · unfold textL
    simp only [List.all_append, padL_dig, List.all_cons, List.all_nil, isDig_of hd7]
    rfl
  · unfold textL
    rw [padL_cons c 2]
    intro e
    have e2 : UInt8.ofNat (48 + c / 10 ^ 2 % 10) = 48 := by simpa using e
    have := congrArg UInt8.toNat e2
    rw [toNat_dig _ (by omega)] at this
    have h48 : (48 : UInt8).toNat = 48 := rfl
    have : (10 : Nat) ^ 2 = 100 := rfl
    omega
  · unfold textL
    rw [dval_snoc, toNat_dig _ hd7, twelve_dval h2 h3]
    unfold mkN
    omega
theorem textL_txt {c s : Nat} (h1 : 100 ≤ c) (h2 : c ≤ 999) (h3 : s ≤ 999999999) : txt (mkN c s) = textL c s := by
  obtain ⟨a, b, d, e⟩ := textL_facts h1 h2 h3
  rw [← e]
  exact txt_dval 12 _ a b (.inr d)
theorem txt_len_ge (m : Nat) : ∀ n, 10 ^ m ≤ n → m + 1 ≤ (txt n).length := by
  induction m with
  | zero => intro n _; have := (txt_digs n).2.2; cases h : txt n with | nil => exact absurd h this | cons a l => simp
  | succ m ih =>
    intro n h
    rw [Nat.pow_succ] at h
    have h10 : 0 < 10 ^ m := Nat.pow_pos (by omega)
    rw [txt_ge n (by omega)]
    have := ih (n / 10) (by omega)
    simp only [List.length_append, List.length_cons, List.length_nil]
    omega
theorem txt_len_le (m : Nat) : ∀ n, n < 10 ^ (m + 1) → (txt n).length ≤ m + 1 := by
  induction m with
  | zero => intro n h; rw [txt_lt n (by omega)]; simp
  | succ m ih =>
    intro n h
    by_cases h10 : n < 10
    · rw [txt_lt n h10]; simp
    · rw [txt_ge n h10]
      have := ih (n / 10) (by rw [Nat.pow_succ] at h; omega)
      simp only [List.length_append, List.length_cons, List.length_nil]
      omega
/-- A text of digits, cut ahead of its last places. -/
theorem dval_cut (l : List UInt8) (k : Nat) (h : l.all isDig = true) : dval (l.take k) = dval l / 10 ^ (l.length - k) ∧ dval (l.drop k) = dval l % 10 ^ (l.length - k) := by
  have h1 := dval_app (l.take k) (l.drop k)
  rw [List.take_append_drop, List.length_drop] at h1
  have h2 := dval_lt (l.drop k) (by
    rw [List.all_eq_true] at h ⊢
    exact fun x hx => h x (List.mem_of_mem_drop hx))
  rw [List.length_drop] at h2
  have hp : 0 < 10 ^ (l.length - k) := Nat.pow_pos (by omega)
  constructor
  · rw [h1, Nat.mul_comm, Nat.mul_add_div hp, Nat.div_eq_of_lt h2, Nat.add_zero]
  · rw [h1, Nat.mul_comm, Nat.mul_add_mod, Nat.mod_eq_of_lt h2]
/-- A number's digits are checked as it is. -/
theorem chk_txt (n : Nat) : (if ofE (txt n) = 4 then 2 else ofE (txt n)) = chkE n := by
  obtain ⟨hd, hv, hne⟩ := txt_digs n
  by_cases h1 : n < 1000000000000
  · have hl := txt_len_le 11 n (by have : (10 : Nat) ^ 12 = 1000000000000 := rfl; omega)
    have e : ofE (txt n) = 4 := by unfold ofE; rw [if_pos (.inl (by omega))]
    rw [e, if_pos rfl]
    unfold chkE
    rw [if_pos (.inl h1)]
  · by_cases h2 : 9999999999999 < n
    · have hl := txt_len_ge 13 n (by have : (10 : Nat) ^ 13 = 10000000000000 := rfl; omega)
      have e : ofE (txt n) = 4 := by unfold ofE; rw [if_pos (.inl (by omega))]
      rw [e, if_pos rfl]
      unfold chkE
      rw [if_pos (.inr h2)]
    · have hl1 := txt_len_le 12 n (by have : (10 : Nat) ^ 13 = 10000000000000 := rfl; omega)
      have hl2 := txt_len_ge 12 n (by have : (10 : Nat) ^ 12 = 1000000000000 := rfl; omega)
      have hl : (txt n).length = 13 := by omega
      have hc := dval_cut (txt n) 12 hd
      rw [hl, hv] at hc
      have e : ofE (txt n) = if n / 10 % 7 ≠ n % 10 then 11 else 0 := by
        unfold ofE
        rw [if_neg (by rw [hd]; simp [hl]), if_neg (txt_head n (by omega)), hc.1, hc.2]
      rw [e]
      unfold chkE
      rw [if_neg (show ¬ (n < 1000000000000 ∨ 9999999999999 < n) by omega)]
      by_cases q : n / 10 % 7 = n % 10
      · simp [q]
      · simp [q]
/-- The number of a text is that text's. -/
theorem of_txt {n : Nat} (h : chkE n = 0) : ofE (txt n) = 0 ∧ ofN (txt n) = n := by
  have := chk_txt n
  rw [h] at this
  have e : ofE (txt n) = 0 := by
    split at this
    · cases this
    · exact this
  refine ⟨e, ?_⟩
  unfold ofN
  rw [if_pos e, (txt_digs n).2.1]
/-- Just one last digit is right. -/
theorem one_right {n : Nat} (h : chkE n = 0) {i : Nat} (hi : i < 10) : chkE (n / 10 * 10 + i) = 0 ↔ i = n % 10 := by
  unfold chkE at h ⊢
  split at h
  · omega
  · split at h
    · omega
    · rename_i h1 h2
      rw [if_neg (by omega)]
      have e : (n / 10 * 10 + i) / 10 = n / 10 := by omega
      have e2 : (n / 10 * 10 + i) % 10 = i := by omega
      rw [e, e2]
      split
      · constructor
        · intro q; omega
        · intro q; omega
      · constructor
        · intro q; omega
        · intro q; omega
end Go.Proofs.Ytchofmncinbmcaa
