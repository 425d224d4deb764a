/- Kbc: laid together out of Nth Nre. -/
import Derived.Test.YtmopkfjnjbimnaaKbb
namespace Go.Proofs.Ytmopkfjnjbimnaa

/-- A carrier's and a serial's number. -/
def mkN (c s : Nat) : Nat := (c * 1000000000 + s) * 10 + (c * 1000000000 + s) % 7
def mayC (c : Int) : Bool := decide (100 ≤ c ∧ c ≤ 999)
def mayCS (c s : Int) : Bool := decide (100 ≤ c ∧ c ≤ 999 ∧ 0 ≤ s ∧ s ≤ 999999999)
/-- What Make answers. -/
def makeN (c s : Int) : Nat := if mayCS c s then mkN c.toNat s.toNat else 0
def makeE (c s : Int) : Int := if mayCS c s then 0 else 2
/-- Why a number is no ticket number. -/
def chkE (n : Nat) : Nat := if n < 1000000000000 ∨ 9999999999999 < n then 2 else if n / 10 % 7 ≠ n % 10 then 11 else 0
def carN (n : Nat) : Nat := if chkE n = 0 then n / 10000000000 else 0
def serN (n : Nat) : Nat := if chkE n = 0 then n / 10 % 1000000000 else 0
def ofE (l : List UInt8) : Nat := if l.length ≠ 13 ∨ l.all isDig = false then 4 else if l.head? = some 48 then 2 else if dval (l.take 12) % 7 ≠ dval (l.drop 12) then 11 else 0
def ofN (l : List UInt8) : Nat := if ofE l = 0 then dval l else 0
/-- So many digits. -/
def padL (n : Nat) : Nat → List UInt8
  | 0 => []
  | m + 1 => padL (n / 10) m ++ [UInt8.ofNat (48 + n % 10)]
set_option maxRecDepth 100000 in
theorem padL_len (m : Nat) : ∀ n, (padL n m).length = m := by
  induction m with
  | zero => intro n; rfl
  | succ m ih => intro n; simp [padL, ih]
set_option maxRecDepth 100000 in
theorem isDig_of {k : Nat} (h : k < 10) : isDig (UInt8.ofNat (48 + k)) = true := by
  unfold isDig
  rw [toNat_dig k h, decide_eq_true_eq]
  omega
set_option maxRecDepth 100000 in
theorem padL_dig (m : Nat) : ∀ n, (padL n m).all isDig = true := by
  induction m with
  | zero => intro n; rfl
  | succ m ih => intro n; simp only [padL, List.all_append, ih, List.all_cons, List.all_nil, isDig_of (Nat.mod_lt n (by omega : 0 < 10))]; rfl
set_option maxRecDepth 100000 in
theorem padL_dval (m : Nat) : ∀ n, dval (padL n m) = n % 10 ^ m := by
  induction m with
  | zero => intro n; simp [padL, dval, Nat.mod_one]
  | succ m ih =>
    intro n
    rw [padL, dval_snoc, ih, toNat_dig _ (Nat.mod_lt n (by omega))]
    have := Nat.mod_mul (x := n) (a := 10) (b := 10 ^ m)
    rw [Nat.pow_succ, Nat.mul_comm (10 ^ m) 10, this]
    omega
set_option maxRecDepth 100000 in
/-- One step more, from the right. -/
theorem padL_step (n m : Nat) : padL n (m + 1) = padL (n / 10) m ++ [UInt8.ofNat (48 + n % 10)] := rfl
set_option maxRecDepth 100000 in
/-- What has been made of k places is the end of all. -/
theorem padL_split (a : Nat) : ∀ (b n : Nat), padL n (a + b) = padL (n / 10 ^ b) a ++ padL n b := by
  intro b
  induction b with
  | zero => intro n; simp [padL]
  | succ b ih =>
    intro n
    rw [← Nat.add_assoc, padL, ih, padL, ← List.append_assoc, Nat.div_div_eq_div_mul, Nat.pow_succ, Nat.mul_comm 10]
set_option maxRecDepth 100000 in
theorem padL_cons (n k : Nat) : padL n (k + 1) = UInt8.ofNat (48 + n / 10 ^ k % 10) :: padL n k := by
  have := padL_split 1 k n
  rw [Nat.add_comm 1 k] at this
  rw [this]
  simp [padL]
set_option maxRecDepth 100000 in
/-- Digits, the first of which is no nought, are their number's. -/
theorem txt_dval : ∀ (m : Nat) (l : List UInt8), l.length = m + 1 → l.all isDig = true → (m = 0 ∨ l.head? ≠ some 48) → txt (dval l) = l := by
  intro m
  induction m with
  | zero =>
    intro l hl hd _
    match l, hl with
    | [c], _ =>
      have hc : 48 ≤ c.toNat ∧ c.toNat ≤ 57 := by simpa [isDig] using hd
      have e : dval [c] = c.toNat - 48 := by simp [dval]
      rw [e, txt_lt _ (by omega)]
      congr 1
      apply UInt8.toNat_inj.1
      rw [toNat_dig _ (by omega)]
      omega
  | succ m ih =>
    intro l hl hd hh
    rcases List.eq_nil_or_concat l with rfl | ⟨p, c, rfl⟩
    · simp at hl
    · simp only [List.concat_eq_append, List.length_append, List.length_cons, List.length_nil] at hl
      simp only [List.concat_eq_append, List.all_append, List.all_cons, List.all_nil, Bool.and_true, Bool.and_eq_true] at hd
      have hp : p.length = m + 1 := by omega
      have hph : p.head? ≠ some 48 := by
        rcases hh with h | h
        · omega
        · match p, hp with
          | a :: q, _ => simpa using h
      have hc : 48 ≤ c.toNat ∧ c.toNat ≤ 57 := by simpa [isDig] using hd.2
      have h1 := ih p hp hd.1 (.inr hph)
      have hpos : 1 ≤ dval p := by
        match p, hp, hph with
        | a :: q, _, hph =>
          have := dval_ge a q hd.1 (by simpa using hph)
          have h10 : 0 < 10 ^ q.length := Nat.pow_pos (by omega)
          omega
      rw [List.concat_eq_append, dval_snoc, txt_ge _ (by omega)]
      have e1 : (dval p * 10 + (c.toNat - 48)) / 10 = dval p := by omega
      have e2 : (dval p * 10 + (c.toNat - 48)) % 10 = c.toNat - 48 := by omega
      rw [e1, e2, h1]
      congr 2
      apply UInt8.toNat_inj.1
      rw [toNat_dig _ (by omega)]
      omega
set_option maxRecDepth 100000 in
theorem mkN_div (c s : Nat) : mkN c s / 10 = c * 1000000000 + s ∧ mkN c s % 10 = (c * 1000000000 + s) % 7 := by
  unfold mkN
  generalize c * 1000000000 + s = t
  omega
set_option maxRecDepth 100000 in
theorem mkN_lt {c s : Nat} (h1 : 100 ≤ c) (h2 : c ≤ 999) (h3 : s ≤ 999999999) : 1000000000000 ≤ mkN c s ∧ mkN c s ≤ 9999999999999 := by
  unfold mkN
  omega
set_option maxRecDepth 100000 in
theorem mkN_parts {c s : Nat} (h1 : 100 ≤ c) (h2 : c ≤ 999) (h3 : s ≤ 999999999) : chkE (mkN c s) = 0 ∧ carN (mkN c s) = c ∧ serN (mkN c s) = s := by
  have h := mkN_lt h1 h2 h3
  have hc : chkE (mkN c s) = 0 := by
    unfold chkE
    rw [if_neg (by omega), (mkN_div c s).1, (mkN_div c s).2, if_neg (fun q => q rfl)]
  unfold carN serN
  rw [if_pos hc, if_pos hc]
  refine ⟨hc, ?_, ?_⟩
  · rw [show (10000000000 : Nat) = 10 * 1000000000 from rfl, ← Nat.div_div_eq_div_mul, (mkN_div c s).1]
    omega
  · rw [(mkN_div c s).1]
    omega
set_option maxRecDepth 100000 in
/-- A ticket number is its parts'. -/
theorem mkN_of {n : Nat} (h : chkE n = 0) : 100 ≤ carN n ∧ carN n ≤ 999 ∧ serN n ≤ 999999999 ∧ mkN (carN n) (serN n) = n := by
  unfold carN serN
  rw [if_pos h, if_pos h]
  unfold chkE at h
  split at h
  · omega
  · split at h
    · omega
    · rename_i h1 h2
      have e : n / 10000000000 = n / 10 / 1000000000 := by rw [Nat.div_div_eq_div_mul]
      have e2 : n / 10 = n / 10 / 1000000000 * 1000000000 + n / 10 % 1000000000 := by omega
      have h3 : n / 10 % 7 = n % 10 := Decidable.not_not.1 h2
      rw [e]
      refine ⟨by omega, by omega, by omega, ?_⟩
      unfold mkN
      rw [← e2, h3]
      omega
/-- The text of a carrier and a serial. -/
def textL (c s : Nat) : List UInt8 := padL c 3 ++ padL s 9 ++ [UInt8.ofNat (48 + dval (padL c 3 ++ padL s 9) % 7)]
set_option maxRecDepth 100000 in
theorem twelve_dval {c s : Nat} (h2 : c ≤ 999) (h3 : s ≤ 999999999) : dval (padL c 3 ++ padL s 9) = c * 1000000000 + s := by
  rw [dval_app, padL_dval, padL_dval, padL_len]
  have : (10 : Nat) ^ 3 = 1000 := rfl
  have : (10 : Nat) ^ 9 = 1000000000 := rfl
  omega
set_option maxRecDepth 100000 in
theorem textL_facts {c s : Nat} (h1 : 100 ≤ c) (h2 : c ≤ 999) (h3 : s ≤ 999999999) : (textL c s).length = 13 ∧ (textL c s).all isDig = true ∧ (textL c s).head? ≠ some 48 ∧ dval (textL c s) = mkN c s := by
  have hd7 : dval (padL c 3 ++ padL s 9) % 7 < 10 := by omega
  refine ⟨?_, ?_, ?_, ?_⟩
  · simp [textL, padL_len]
  · unfold textL
    simp only [List.all_append, padL_dig, List.all_cons, List.all_nil, isDig_of hd7]
    rfl
  · unfold textL
    rw [padL_cons c 2]
    intro e
    have e2 : UInt8.ofNat (48 + c / 10 ^ 2 % 10) = 48 := by simpa using e
    have := congrArg UInt8.toNat e2
    rw [toNat_dig _ (by omega)] at this
    have h48 : (48 : UInt8).toNat = 48 := rfl
    have : (10 : Nat) ^ 2 = 100 := rfl
    omega
  · unfold textL
    rw [dval_snoc, toNat_dig _ hd7, twelve_dval h2 h3]
    unfold mkN
    omega
set_option maxRecDepth 100000 in
theorem textL_txt {c s : Nat} (h1 : 100 ≤ c) (h2 : c ≤ 999) (h3 : s ≤ 999999999) : txt (mkN c s) = textL c s := by
  obtain ⟨a, b, d, e⟩ := textL_facts h1 h2 h3
  rw [← e]
  exact txt_dval 12 _ a b (.inr d)
set_option maxRecDepth 100000 in
theorem txt_len_ge (m : Nat) : ∀ n, 10 ^ m ≤ n → m + 1 ≤ (txt n).length := by
  induction m with
  | zero => intro n _; have := (txt_digs n).2.2; cases h : txt n with | nil => exact absurd h this | cons a l => simp
  | succ m ih =>
    intro n h
    rw [Nat.pow_succ] at h
    have h10 : 0 < 10 ^ m := Nat.pow_pos (by omega)
    rw [txt_ge n (by omega)]
    have := ih (n / 10) (by omega)
    simp only [List.length_append, List.length_cons, List.length_nil]
    omega
set_option maxRecDepth 100000 in
theorem txt_len_le (m : Nat) : ∀ n, n < 10 ^ (m + 1) → (txt n).length ≤ m + 1 := by
  induction m with
  | zero => intro n h; rw [txt_lt n (by omega)]; simp
  | succ m ih =>
    intro n h
    by_cases h10 : n < 10
    · rw [txt_lt n h10]; simp
    · rw [txt_ge n h10]
      have := ih (n / 10) (by rw [Nat.pow_succ] at h; omega)
      simp only [List.length_append, List.length_cons, List.length_nil]
      omega
set_option maxRecDepth 100000 in
/-- A text of digits, cut ahead of its last places. -/
theorem dval_cut (l : List UInt8) (k : Nat) (h : l.all isDig = true) : dval (l.take k) = dval l / 10 ^ (l.length - k) ∧ dval (l.drop k) = dval l % 10 ^ (l.length - k) := by
  have h1 := dval_app (l.take k) (l.drop k)
  rw [List.take_append_drop, List.length_drop] at h1
  have h2 := dval_lt (l.drop k) (by
    rw [List.all_eq_true] at h ⊢
    exact fun x hx => h x (List.mem_of_mem_drop hx))
  rw [List.length_drop] at h2
  have hp : 0 < 10 ^ (l.length - k) := Nat.pow_pos (by omega)
  constructor
  · rw [h1, Nat.mul_comm, Nat.mul_add_div hp, Nat.div_eq_of_lt h2, Nat.add_zero]
  · rw [h1, Nat.mul_comm, Nat.mul_add_mod, Nat.mod_eq_of_lt h2]
set_option maxRecDepth 100000 in
/-- A number's digits are checked as it is. -/
theorem chk_txt (n : Nat) : (if ofE (txt n) = 4 then 2 else ofE (txt n)) = chkE n := by
  obtain ⟨hd, hv, hne⟩ := txt_digs n
  by_cases h1 : n < 1000000000000
  · have hl := txt_len_le 11 n (by have : (10 : Nat) ^ 12 = 1000000000000 := rfl; omega)
    have e : ofE (txt n) = 4 := by unfold ofE; rw [if_pos (.inl (by omega))]
    rw [e, if_pos rfl]
    unfold chkE
    rw [if_pos (.inl h1)]
  · by_cases h2 : 9999999999999 < n
    · have hl := txt_len_ge 13 n (by have : (10 : Nat) ^ 13 = 10000000000000 := rfl; omega)
      have e : ofE (txt n) = 4 := by unfold ofE; rw [if_pos (.inl (by omega))]
      rw [e, if_pos rfl]
      unfold chkE
      rw [if_pos (.inr h2)]
    · have hl1 := txt_len_le 12 n (by have : (10 : Nat) ^ 13 = 10000000000000 := rfl; omega)
      have hl2 := txt_len_ge 12 n (by have : (10 : Nat) ^ 12 = 1000000000000 := rfl; omega)
      have hl : (txt n).length = 13 := by omega
      have hc := dval_cut (txt n) 12 hd
      rw [hl, hv] at hc
      have e : ofE (txt n) = if n / 10 % 7 ≠ n % 10 then 11 else 0 := by
        unfold ofE
        rw [if_neg (by rw [hd]; simp [hl]), if_neg (txt_head n (by omega)), hc.1, hc.2]
      rw [e]
      unfold chkE
      rw [if_neg (show ¬ (n < 1000000000000 ∨ 9999999999999 < n) by omega)]
      by_cases q : n / 10 % 7 = n % 10
      · simp [q]
      · simp [q]
set_option maxRecDepth 100000 in
/-- The number of a text is that text's. -/
theorem of_txt {n : Nat} (h : chkE n = 0) : ofE (txt n) = 0 ∧ ofN (txt n) = n := by
  have := chk_txt n
  rw [h] at this
  have e : ofE (txt n) = 0 := by
    split at this
    · cases this
    · exact this
  refine ⟨e, ?_⟩
  unfold ofN
  rw [if_pos e, (txt_digs n).2.1]
set_option maxRecDepth 100000 in
/-- Just one last digit is right. -/
theorem one_right {n : Nat} (h : chkE n = 0) {i : Nat} (hi : i < 10) : chkE (n / 10 * 10 + i) = 0 ↔ i = n % 10 := by
  unfold chkE at h ⊢
  split at h
  · omega
  · split at h
    · omega
    · rename_i h1 h2
      rw [if_neg (by omega)]
      have e : (n / 10 * 10 + i) / 10 = n / 10 := by omega
      have e2 : (n / 10 * 10 + i) % 10 = i := by omega
      rw [e, e2]
      split
      · constructor
        · intro q; omega
        · intro q; omega
      · constructor
        · intro q; omega
        · intro q; omega
end Go.Proofs.Ytmopkfjnjbimnaa

namespace Go.Proofs.Ytmopkfjnjbimnaa
open Go.RowKit

set_option maxRecDepth 100000 in
theorem ext_list (s : ByteArray) (a b : Nat) : (s.extract a b).data.toList = (s.data.toList.take b).drop a := by
  rw [ByteArray.data_extract, Array.toList_extract, List.extract_eq_take_drop]
  rw [List.drop_take]
set_option maxRecDepth 100000 in
theorem ext_size (s : ByteArray) {a b : Nat} (h : b ≤ s.size) : (s.extract a b).size = b - a := by
  rw [ByteArray.size_extract]
  omega
set_option maxRecDepth 100000 in
theorem app_list (a b : ByteArray) : (a ++ b).data.toList = a.data.toList ++ b.data.toList := by
  rw [ByteArray.data_append]
  simp
set_option maxRecDepth 100000 in
theorem size_list (s : ByteArray) : s.size = s.data.toList.length := (Array.length_toList).symm
set_option maxRecDepth 100000 in
/-- text: so many digits. -/
theorem rpad_any (n m : Nat) (hn : n < 4611686018427387904) (hm : m ≤ 100) (w : World) : Calls Try.prog 114 #[.int .i64 n, .int .i64 m] w fun e w' => ∃ s : ByteArray, e = .returned (.string s) ∧ s.data.toList = padL n m ∧ Fr (fun _ => False) w w' := by
  have HN := Lib.hid hn
  have HM := Lib.hid hm
  clear hn
  go_enter Try.func114, Try.ntmps114
  go_wp2_with fail
  go_loopw [0, 5, 6] (fun v x i wr => ∃ (k : Nat) (j : Nat) (s : ByteArray), v = .int .i64 j ∧ x = .string s ∧ i = .int .i64 k ∧ k ≤ m ∧ Hid (j = n / 10 ^ k) ∧ Hid (s.data.toList = padL n k) ∧ Fr (fun _ => False) w wr) (fun _ _ i _ => m - (intOf i).toNat)
  case atStart => exact ⟨0, n, ⟨#[]⟩, rfl, rfl, rfl, by omega, Lib.hid (by simp), Lib.hid rfl, Fr.refl _ _⟩
  case round =>
    obtain ⟨k, j, s, rfl, rfl, rfl, hk, HJ, HS, hf⟩ := hrel
    by_cases hlt : k < m
    · have hjn : j ≤ n := by rw [HJ.out]; exact Nat.div_le_self _ _
      have hj62 : j < 4611686018427387904 := Nat.lt_of_le_of_lt hjn HN.out
      obtain ⟨c, hc⟩ : ∃ c : UInt8, c = UInt8.ofNat (48 + j % 10) := ⟨_, rfl⟩
      have hcv : (c.toNat : Int) = 48 + (j : Int) % 10 := by rw [hc, toNat_dig (j % 10) (by omega)]; omega
      have HC := Lib.hid hc
      have hc1 := conv_one wr c
      rw [hcv] at hc1
      clear hc hcv hjn
      have hki : (k : Int) < (m : Int) := by omega
      have HJ2 := Lib.hid (And.intro HJ.out HS.out)
      have hsz : s.size ≤ 100 := by rw [size_list, HS.out, padL_len]; omega
      clear HJ HS
      go_wp2_with fail
      refine ⟨⟨k + 1, j / 10, _, by norm_cast, rfl, by norm_cast, by omega, Lib.hid ?_, Lib.hid ?_, hf.alloc _⟩, ?_⟩
      · rw [HJ2.out.1, Nat.pow_succ, Nat.div_div_eq_div_mul]
      · rw [str_app, HC.out, HJ2.out.2, padL_cons, HJ2.out.1]
      · simp only [intOf]
        omega
    · obtain rfl : k = m := by omega
      clear hlt
      go_wp2_with fail
      go_ret
      exact ⟨s, rfl, HS.out, hf⟩
set_option maxRecDepth 100000 in
set_option maxHeartbeats 1000000 in
theorem rdigits_any (n : Nat) (hn : n < 18446744073709551616) (w : World) :
    Calls Try.prog 101 #[.int .u64 n] w fun e w' => ∃ s : ByteArray, e = .returned (.string s) ∧ s.data.toList = txt n ∧ Fr (fun _ => False) w w' := by
  have hst := Lib.hid (TxtAt.start n)
  have HN := Lib.hid hn
  clear hn
  go_enter Try.func101, Try.ntmps101
  go_wp2_with fail
  go_loopw [0, 3] (fun v x wr => ∃ (k : Nat) (s : ByteArray), v = .int .u64 k ∧ x = .string s ∧ k ≤ n ∧ Hid (TxtAt n k s.data.toList) ∧ Fr (fun _ => False) w wr) (fun v x _ => (intOf v).toNat + noneYet x)
  case atStart => exact ⟨n, ⟨#[]⟩, rfl, rfl, Nat.le_refl _, hst, Fr.refl _ _⟩
  case round =>
    obtain ⟨k, s, rfl, rfl, hkn, hat, hf⟩ := hrel
    have hlen := hat.out.len HN.out
    rw [Array.length_toList] at hlen
    have hsz : s.size ≤ 20 := hlen
    clear hlen
    obtain ⟨c, hc⟩ : ∃ c : UInt8, c = UInt8.ofNat (48 + k % 10) := ⟨_, rfl⟩
    have hcv : (c.toNat : Int) = 48 + (k : Int) % 10 := by rw [hc, toNat_dig (k % 10) (by omega)]; omega
    have HC := Lib.hid hc
    have hc1 := conv_one wr c
    rw [hcv] at hc1
    clear hc hcv
    have hw : IntKind.u64.wrap ((k : Int) / 10) = ((k / 10 : Nat) : Int) := by rw [wrapU]; have := HN.out; omega
    have hs1 : ((⟨#[c]⟩ : ByteArray) ++ s).size = s.size + 1 := by
      have h1 : (⟨#[c]⟩ : ByteArray).size = 1 := rfl
      rw [ByteArray.size_append, h1]
      omega
    have HS := Lib.hid hs1
    clear hs1
    by_cases hk : 0 < k
    · have hd : decide ((0 : Int) < (k : Int)) = true := by rw [decide_eq_true_eq]; omega
      have hstep := Lib.hid (hat.out.step (.inl hk))
      go_wp2_with fail
      refine ⟨⟨k / 10, _, rfl, rfl, by omega, Lib.hid ?_, hf.alloc _⟩, ?_⟩
      · rw [str_app, HC.out]
        exact hstep.out
      · simp only [intOf, noneYet, HS.out]
        omega
    · obtain rfl : k = 0 := by omega
      clear hk hc1
      have hc2 := conv_one wr c
      have hcv : (c.toNat : Int) = 48 := by rw [HC.out]; rfl
      rw [hcv] at hc2
      clear hcv
      by_cases h0 : s.size = 0
      · have hl : s.data.toList = [] := List.eq_nil_of_length_eq_zero (by rw [Array.length_toList]; exact h0)
        have hstep := Lib.hid (hat.out.step (.inr hl))
        have hl2 : s.toList = [] := by rw [ByteArray.toList_eq]; exact hl
        have H0 := Lib.hid h0
        clear h0 hl
        go_wp2_with fail
        refine ⟨⟨0, _, rfl, rfl, by omega, Lib.hid ?_, hf.alloc _⟩, ?_⟩
        · rw [str_app, HC.out]
          exact hstep.out
        · simp only [intOf, noneYet, HS.out, H0.out]
          omega
      · have hl : s.data.toList ≠ [] := fun h => h0 (by rw [← List.length_eq_zero_iff, Array.length_toList] at h; exact h)
        have hl2 : s.toList = [] ↔ False := by rw [ByteArray.toList_eq]; exact ⟨fun h => hl h, fun h => h.elim⟩
        have hl3 : (s.toList == []) = false := by rw [ByteArray.toList_eq, beq_eq_false_iff_ne]; exact hl
        have hl4 : s.toList.isEmpty = false := by rw [ByteArray.toList_eq, List.isEmpty_eq_false_iff]; exact hl
        have hfin : s.data.toList = txt n := by
          rcases hat.out with ⟨h, _⟩ | ⟨_, h, _⟩ | ⟨_, _, h⟩
          · omega
          · exact absurd h hl
          · exact h.symm
        have HF := Lib.hid hfin
        clear hfin hl h0 hl2
        go_wp2
        go_ret
        exact ⟨s, rfl, HF.out, hf⟩

set_option maxRecDepth 100000 in
/-- worth: what digits come to, if it is a number of 8 bytes. -/
theorem rworth_any (s : ByteArray) (hs : s.size ≤ 1000) (hd : s.data.toList.all isDig = true) (hv : dval s.data.toList < 18446744073709551616) (w : World) :
    Calls Try.prog 95 #[.string s] w fun e w' => e = .returned (.int .u64 (dval s.data.toList : Nat)) ∧ w = w' := by
  have hpre : ∀ k, dval (s.data.toList.take k) ≤ dval s.data.toList := by
    intro k
    have h := dval_app (s.data.toList.take k) (s.data.toList.drop k)
    rw [List.take_append_drop] at h
    have := Nat.le_mul_of_pos_right (dval (s.data.toList.take k)) (show 0 < 10 ^ (s.data.toList.drop k).length from Nat.pow_pos (by omega))
    omega
  obtain ⟨b, hb⟩ : ∃ b, b = dval s.data.toList := ⟨_, rfl⟩
  rw [← hb]
  have HB := Lib.hid hb
  have HV := Lib.hid hv
  have HD := Lib.hid hd
  have HP := Lib.hid hpre
  clear hb hv hd hpre
  go_enter Try.func95, Try.ntmps95
  go_wp2_with fail
  go_loop [3, 4] (fun n i => ∃ k : Nat, k ≤ s.size ∧ i = .int .i64 k ∧ n = .int .u64 (dval (s.data.toList.take k) : Nat)) (fun _ i => s.size - (intOf i).toNat)
  case atStart => exact ⟨0, by omega, rfl, rfl⟩
  case round =>
    obtain ⟨k, hk, rfl, rfl⟩ := hrel
    by_cases hlt : k < s.size
    · have hts := take_snoc s k hlt
      have hdg : isDig s[k] = true := List.all_eq_true.1 HD.out _ (List.mem_of_getElem? (get_lst s k hlt))
      have hdg' : 48 ≤ s[k].toNat ∧ s[k].toNat ≤ 57 := of_decide_eq_true hdg
      have hn := HP.out (k + 1)
      rw [hts, dval_snoc] at hn
      have hnext := dval_snoc (s.data.toList.take k) s[k]
      rw [← hts] at hnext
      have HN := Lib.hid hnext
      have hw1 : IntKind.u64.wrap ((10 : Int) * (dval (s.data.toList.take k) : Nat)) = ((dval (s.data.toList.take k) * 10 : Nat) : Int) := by rw [wrapU]; have := HV.out; omega
      have hw2 : IntKind.u8.wrap ((s[k].toNat : Int) - 48) = ((s[k].toNat - 48 : Nat) : Int) := by
        have : IntKind.u8.wrap ((s[k].toNat : Int) - 48) = ((s[k].toNat : Int) - 48) % 256 := by simp [IntKind.wrap, IntKind.signed, IntKind.bits]
        rw [this]; omega
      have Hn := Lib.hid (Nat.lt_of_le_of_lt hn HV.out)
      clear hts hnext hdg hn
      obtain ⟨hdg1, hdg2⟩ := hdg'
      generalize hx : dval (s.data.toList.take k) = x at *
      go_wp2_with fail
      refine ⟨⟨k + 1, by omega, by go_num, congrArg (Value.int .u64) ?_⟩, by simp [intOf]; omega⟩
      rw [HN.out, wrapU]
      have := Hn.out
      omega
    · have hta := take_all s k hlt
      have hfin : dval (s.data.toList.take k) = b := by rw [hta, HB.out]
      rw [hfin]
      clear hta hfin
      go_wp2_with fail
      go_ret
      exact ⟨rfl, rfl⟩

set_option maxRecDepth 100000 in
/-- digit: twelve digits, modulo 7. -/
theorem rdigit_any (s : ByteArray) (hs : s.size ≤ 1000) (hd : s.data.toList.all isDig = true) (w : World) : Calls Try.prog 115 #[.string s] w fun e w' => e = .returned (.int .u8 ((UInt8.ofNat (48 + dval s.data.toList % 7)).toNat : Int)) ∧ w = w' := by
  rw [toNat_dig _ (by omega)]
  obtain ⟨b, hb⟩ : ∃ b, b = dval s.data.toList % 7 := ⟨_, rfl⟩
  rw [← hb]
  have HB := Lib.hid hb
  have HD := Lib.hid hd
  have hb7 : b < 7 := by omega
  clear hb hd
  go_enter Try.func115, Try.ntmps115
  go_wp2_with fail
  go_loop [3, 4] (fun n i => ∃ k x : Nat, k ≤ s.size ∧ i = .int .i64 k ∧ n = .int .i64 x ∧ x < 7 ∧ Hid (x = dval (s.data.toList.take k) % 7)) (fun _ i => s.size - (intOf i).toNat)
  case atStart => exact ⟨0, 0, by omega, rfl, rfl, by omega, Lib.hid rfl⟩
  case round =>
    obtain ⟨k, x, hk, rfl, rfl, hx7, HX⟩ := hrel
    by_cases hlt : k < s.size
    · have hdg : isDig s[k] = true := List.all_eq_true.1 HD.out _ (List.mem_of_getElem? (get_lst s k hlt))
      obtain ⟨hdg1, hdg2⟩ : 48 ≤ s[k].toNat ∧ s[k].toNat ≤ 57 := of_decide_eq_true hdg
      have hw2 : IntKind.u8.wrap ((s[k].toNat : Int) - 48) = ((s[k].toNat - 48 : Nat) : Int) := by
        have : IntKind.u8.wrap ((s[k].toNat : Int) - 48) = ((s[k].toNat : Int) - 48) % 256 := by simp [IntKind.wrap, IntKind.signed, IntKind.bits]
        rw [this]; omega
      have hnx : Hid ((10 * x + (s[k].toNat - 48)) % 7 = dval (s.data.toList.take (k + 1)) % 7) := Lib.hid (by
        rw [take_snoc s k hlt, dval_snoc, HX.out]
        omega)
      clear hdg HX
      generalize hy : s[k].toNat - 48 = y at *
      have hy9 : y ≤ 9 := by omega
      go_wp2_with fail
      refine ⟨⟨k + 1, (10 * x + y) % 7, by omega, by go_num, by norm_cast, by omega, hnx⟩, by simp [intOf]; omega⟩
    · have hta := take_all s k hlt
      have hfin : x = b := by rw [HX.out, hta, HB.out]
      subst hfin
      clear hta HX HB
      go_wp2_with fail
      go_ret
      refine ⟨?_, rfl⟩
      congr 2 <;> omega
set_option maxRecDepth 100000 in
theorem rmayc_any (c : Int) (w : World) : Calls Try.prog 94 #[.int .i64 c] w fun e w' => e = .returned (.bool (mayC c)) ∧ w = w' := by
  obtain ⟨b, hb⟩ : ∃ b, b = mayC c := ⟨_, rfl⟩
  rw [← hb]
  by_cases h1 : 100 ≤ c
  · by_cases h2 : c ≤ 999
    · have e : b = true := by rw [hb]; unfold mayC; rw [decide_eq_true_eq]; omega
      subst e
      clear hb
      go_enter Try.func94, Try.ntmps94
      go_wp2_with fail
      go_ret
      exact ⟨rfl, rfl⟩
    · have e : b = false := by rw [hb]; unfold mayC; rw [decide_eq_false_iff_not]; omega
      subst e
      clear hb
      go_enter Try.func94, Try.ntmps94
      go_wp2_with fail
      go_ret
      exact ⟨rfl, rfl⟩
  · have e : b = false := by rw [hb]; unfold mayC; rw [decide_eq_false_iff_not]; omega
    subst e
    clear hb
    go_enter Try.func94, Try.ntmps94
    go_wp2_with fail
    go_ret
    exact ⟨rfl, rfl⟩
set_option maxRecDepth 100000 in
/-- Text: of a carrier and a serial. -/
theorem nrtext_any {c s : Nat} (hc : c ≤ 999) (hs : s ≤ 999999999) (w : World) : Calls Try.prog 96 #[.int .i64 c, .int .i64 s] w fun e w' => ∃ t : ByteArray, e = .returned (.string t) ∧ t.data.toList = textL c s ∧ Fr (fun _ => False) w w' := by
  have H1 := Lib.hid (rpad_any c 3 (by omega) (by omega) w)
  have H2 := Lib.hid (fun W => rpad_any s 9 (by omega) (by omega) W)
  clear hc hs
  go_enter Try.func96, Try.ntmps96
  go_wp2_with fail
  refine H1.out.mono ?_
  rintro e w1 ⟨s1, rfl, h1, f1⟩
  have HA := Lib.hid (And.intro h1 f1)
  clear h1 f1 H1
  go_wp2_with fail
  refine (H2.out w1).mono ?_
  rintro e w2 ⟨s2, rfl, h2, f2⟩
  obtain ⟨t, ht⟩ : ∃ t, s1 ++ s2 = t := ⟨_, rfl⟩
  have htl : t.data.toList = padL c 3 ++ padL s 9 := by rw [← ht, app_list, HA.out.1, h2]
  have htz : t.size = 12 := by rw [size_list, htl, List.length_append, padL_len, padL_len]
  obtain ⟨cd, hcd⟩ : ∃ cd : UInt8, cd = UInt8.ofNat (48 + dval t.data.toList % 7) := ⟨_, rfl⟩
  have HDG := Lib.hid (rdigit_any t (by omega) (by rw [htl, List.all_append, padL_dig, padL_dig]; rfl) w2)
  rw [← hcd] at HDG
  have hc1 := conv_one w2 cd
  have HB := Lib.hid (And.intro htl (And.intro hcd (HA.out.2.trans f2 (fun _ _ q => q))))
  have hs1 : s1.size = 3 := by rw [size_list, HA.out.1, padL_len]
  have hs2 : s2.size = 9 := by rw [size_list, h2, padL_len]
  clear h2 f2 H2 hcd htl
  go_wp2_with fail
  refine HDG.out.mono ?_
  rintro e w3 ⟨rfl, rfl⟩
  clear HDG
  go_wp2_with fail
  go_ret
  refine ⟨_, rfl, ?_, HB.out.2.2.alloc _⟩
  rw [app_list, HB.out.1, HB.out.2.1, HB.out.1]
  rfl
set_option maxRecDepth 100000 in
theorem rmake_any (c s : Int) (w : World) : Calls Try.prog 62 #[.int .i64 c, .int .i64 s] w fun e w' => e = .returned (.tuple #[.int .u64 (makeN c s : Nat), .bool (mayCS c s)]) ∧ Fr (fun _ => False) w w' := by
  unfold makeN
  have HC := Lib.hid (rmayc_any c w)
  obtain ⟨b, hb⟩ : ∃ b, b = mayC c := ⟨_, rfl⟩
  rw [← hb] at HC
  have HB := Lib.hid hb
  clear hb
  by_cases hm : mayCS c s = true
  · rw [if_pos hm, hm]
    unfold mayCS at hm
    rw [decide_eq_true_eq] at hm
    obtain ⟨c', rfl⟩ : ∃ c' : Nat, c = c' := ⟨c.toNat, by omega⟩
    obtain ⟨s', rfl⟩ : ∃ s' : Nat, s = s' := ⟨s.toNat, by omega⟩
    have e : b = true := by rw [HB.out]; unfold mayC; rw [decide_eq_true_eq]; omega
    subst e
    have hf := textL_facts (c := c') (s := s') (by omega) (by omega) (by omega)
    have HT := Lib.hid (nrtext_any (c := c') (s := s') (by omega) (by omega) w)
    have h1 : ¬ (s' : Int) < 0 := by omega
    have h2 : ¬ (999999999 : Int) < (s' : Int) := by omega
    have hlt := mkN_lt (c := c') (s := s') (by omega) (by omega) (by omega)
    obtain ⟨x, hx⟩ : ∃ x, x = mkN c' s' := ⟨_, rfl⟩
    rw [Int.toNat_natCast, Int.toNat_natCast, ← hx]
    have HF := Lib.hid (And.intro hf (And.intro hlt hx))
    clear hm hf hlt hx
    go_enter Try.func62, Try.ntmps62
    go_wp2_with fail
    refine HC.out.mono ?_
    rintro e w1 ⟨rfl, rfl⟩
    clear HC
    go_wp2_with fail
    refine HT.out.mono ?_
    rintro e w2 ⟨t, rfl, ht, f⟩
    have HW := Lib.hid (rworth_any t (by rw [size_list, ht, HF.out.1.1]; omega) (by rw [ht]; exact HF.out.1.2.1) (by rw [ht, HF.out.1.2.2.2]; have := HF.out.2.1.2; omega) w2)
    rw [ht, HF.out.1.2.2.2, ← HF.out.2.2] at HW
    have HR := Lib.hid f
    clear ht f HT
    go_wp2_with fail
    refine HW.out.mono ?_
    rintro e w3 ⟨rfl, rfl⟩
    go_wp2_with fail
    go_ret2
    exact ⟨rfl, HR.out⟩
  · rw [if_neg hm]
    rw [Bool.not_eq_true] at hm
    rw [hm]
    unfold mayCS at hm
    rw [decide_eq_false_iff_not] at hm
    cases b with
    | false =>
      clear hm
      go_enter Try.func62, Try.ntmps62
      go_wp2_with fail
      refine HC.out.mono ?_
      rintro e w1 ⟨rfl, rfl⟩
      go_wp2_with fail
      go_ret2
      exact ⟨rfl, Fr.refl _ _⟩
    | true =>
      have hb := HB.out
      unfold mayC at hb
      have hb2 := of_decide_eq_true hb.symm
      by_cases h1 : s < 0
      · clear hm hb hb2
        go_enter Try.func62, Try.ntmps62
        go_wp2_with fail
        refine HC.out.mono ?_
        rintro e w1 ⟨rfl, rfl⟩
        go_wp2_with fail
        go_ret2
        exact ⟨rfl, Fr.refl _ _⟩
      · have h2 : (999999999 : Int) < s := by omega
        clear hm hb hb2
        go_enter Try.func62, Try.ntmps62
        go_wp2_with fail
        refine HC.out.mono ?_
        rintro e w1 ⟨rfl, rfl⟩
        go_wp2_with fail
        go_ret2
        exact ⟨rfl, Fr.refl _ _⟩
set_option maxRecDepth 100000 in
theorem drop_last (s : ByteArray) (h : s.size = 13) (h12 : 12 < s.size) : s.data.toList.drop 12 = [s[12]] := by
  have hl : s.data.toList.length = 13 := by rw [← size_list]; exact h
  have h1 := List.drop_eq_getElem_cons (l := s.data.toList) (i := 12) (by omega)
  rw [h1, List.drop_eq_nil_of_le (by omega)]
  rfl
set_option maxRecDepth 100000 in
theorem head_at (s : ByteArray) (h : 0 < s.size) : s.data.toList.head? = some s[0] := by
  rw [List.head?_eq_getElem?]
  exact get_lst s 0 h
set_option maxRecDepth 100000 in
theorem rof_any (s : ByteArray) (hs : s.size ≤ 1000) (w : World) : Calls Try.prog 100 #[.string s] w fun e w' => e = .returned (.tuple #[.int .u64 (ofN s.data.toList : Nat), .int .i64 (ofE s.data.toList : Nat)]) ∧ Fr (fun _ => False) w w' := by
  obtain ⟨x, hx⟩ : ∃ x, x = ofN s.data.toList := ⟨_, rfl⟩
  obtain ⟨y, hy⟩ : ∃ y, y = ofE s.data.toList := ⟨_, rfl⟩
  rw [← hx, ← hy]
  have HX := Lib.hid (And.intro hx hy)
  clear hx hy
  by_cases h13 : s.size = 13
  · have hb13 : ((s.size : Int) != 13) = false := by rw [bne_eq_false_iff_eq]; omega
    go_enter Try.func100, Try.ntmps100
    go_wp2_with fail
    go_loop [4] (fun i => ∃ k : Nat, k ≤ 13 ∧ i = .int .i64 k ∧ Hid ((s.data.toList.take k).all isDig = true)) (fun i => 13 - (intOf i).toNat)
    case atStart => exact ⟨0, by omega, rfl, rfl⟩
    case round =>
      obtain ⟨k, hk, rfl, hall⟩ := hrel
      by_cases hlt : k < 13
      · have hks : k < s.size := by omega
        have hts := Lib.hid (take_snoc s k hks)
        have hki : (k : Int) < 13 := by omega
        by_cases hdig : 48 ≤ s[k].toNat ∧ s[k].toNat ≤ 57
        · obtain ⟨hd1, hd2⟩ := hdig
          have hd3 : decide ((s[k].toNat : Int) < 48) = false := by rw [decide_eq_false_iff_not]; omega
          have hd4 : decide (57 < (s[k].toNat : Int)) = false := by rw [decide_eq_false_iff_not]; omega
          go_wp2_with fail
          refine ⟨⟨k + 1, by omega, by go_num, Lib.hid ?_⟩, by simp [intOf]; omega⟩
          rw [hts.out, List.all_append, hall.out]
          simp [isDig, hd1, hd2]
        · have hfin : y = 4 ∧ x = 0 := by
            have hd : s.data.toList.all isDig = false := by
              rw [List.all_eq_false]
              refine ⟨s[k], List.mem_of_getElem? (get_lst s k hks), ?_⟩
              simp only [isDig, decide_eq_true_eq]
              exact hdig
            have e : ofE s.data.toList = 4 := by unfold ofE; rw [if_pos (.inr hd)]
            refine ⟨by rw [HX.out.2, e], ?_⟩
            rw [HX.out.1]
            unfold ofN
            rw [e]
            rfl
          obtain ⟨rfl, rfl⟩ := hfin
          by_cases hlo : s[k].toNat < 48
          · have hd3 : decide ((s[k].toNat : Int) < 48) = true := by rw [decide_eq_true_eq]; omega
            clear hdig
            go_wp2_with fail
            go_ret2
            exact ⟨rfl, Fr.refl _ _⟩
          · have hd3 : decide ((s[k].toNat : Int) < 48) = false := by rw [decide_eq_false_iff_not]; omega
            have hd4 : decide (57 < (s[k].toNat : Int)) = true := by rw [decide_eq_true_eq]; omega
            clear hdig
            go_wp2_with fail
            go_ret2
            exact ⟨rfl, Fr.refl _ _⟩
      · obtain rfl : k = 13 := by omega
        have hd := hall.out
        rw [List.take_of_length_le (by rw [← size_list]; omega)] at hd
        have hl : s.data.toList.length = 13 := by rw [← size_list]; exact h13
        have h0 : 0 < s.size := by omega
        have h12 : 12 < s.size := by omega
        have hhd := head_at s h0
        have hdl := drop_last s h13 h12
        have hE : ofE s.data.toList = if s[0] = 48 then 2 else if dval (s.data.toList.take 12) % 7 ≠ s[12].toNat - 48 then 11 else 0 := by
          unfold ofE
          have e1 : dval [s[12]] = s[12].toNat - 48 := by simp [dval]
          rw [if_neg (by rw [hd, hl]; simp), hhd, hdl, e1]
          simp only [Option.some.injEq]
        have h12d : isDig s[12] = true := List.all_eq_true.1 hd _ (List.mem_of_getElem? (get_lst s 12 h12))
        have h12' : 48 ≤ s[12].toNat ∧ s[12].toNat ≤ 57 := of_decide_eq_true h12d
        clear hlt hall hhd hdl h12d
        by_cases hz : s[0] = 48
        · have e0 : ((s[0].toNat : Int) == 48) = true := by rw [hz]; rfl
          have e : ofE s.data.toList = 2 := by rw [hE, if_pos hz]
          obtain rfl : y = 2 := by rw [HX.out.2, e]
          obtain rfl : x = 0 := by rw [HX.out.1]; unfold ofN; rw [e]; rfl
          clear hE e hd hl h12' hz
          go_wp2_with fail
          go_ret2
          exact ⟨rfl, Fr.refl _ _⟩
        · have e0 : ((s[0].toNat : Int) == 48) = false := by
            rw [beq_eq_false_iff_ne]
            intro q
            exact hz (UInt8.toNat_inj.1 (by show s[0].toNat = 48; omega))
          rw [if_neg hz] at hE
          obtain ⟨t, ht⟩ : ∃ t, s.extract 0 12 = t := ⟨_, rfl⟩
          have htl : t.data.toList = s.data.toList.take 12 := by rw [← ht, ext_list]; rfl
          have htz : t.size = 12 := by rw [size_list, htl, List.length_take, hl]; rfl
          have htd : t.data.toList.all isDig = true := by
            rw [htl, List.all_eq_true]
            exact fun z hz => List.all_eq_true.1 hd z (List.mem_of_mem_take hz)
          obtain ⟨cd, hcd⟩ : ∃ cd : Nat, cd = dval (s.data.toList.take 12) % 7 := ⟨_, rfl⟩
          have hcd7 : cd < 7 := by omega
          have HDG := Lib.hid (fun W => rdigit_any t (by omega) htd W)
          obtain ⟨cu, hcu⟩ : ∃ cu : UInt8, cu = UInt8.ofNat (48 + cd) := ⟨_, rfl⟩
          have hcun : cu.toNat = 48 + cd := by rw [hcu]; exact toNat_dig _ (by omega)
          simp only [htl, ← hcd, ← hcu] at HDG
          rw [← hcd] at hE
          have HW := Lib.hid (fun W => rworth_any s (by omega) hd (by have := dval_lt s.data.toList hd; rw [hl] at this; have : (10 : Nat) ^ 13 = 10000000000000 := rfl; omega) W)
          have HE := Lib.hid hE
          obtain ⟨z, hz12⟩ : ∃ z, z = s[12].toNat := ⟨_, rfl⟩
          rw [← hz12] at h12' HE
          by_cases hc : cd = z - 48
          · have e12 : ((cu.toNat : Int) != (z : Int)) = false := by rw [bne_eq_false_iff_eq]; omega
            have e : ofE s.data.toList = 0 := by rw [HE.out, if_neg (fun q => q hc)]
            obtain rfl : y = 0 := by rw [HX.out.2, e]
            have hx : x = dval s.data.toList := by rw [HX.out.1]; unfold ofN; rw [e]; rfl
            simp only [← hx] at HW
            rw [hz12] at e12
            clear hE htl htd hcd hcu hcun hz hd hl e hx hc h12' HE
            go_wp2_with fail
            (try simp only [Act.put, List.setIfInBounds_toArray, List.set_cons_zero, List.set_cons_succ])
            refine wp_region_held_drew (S := fun w' => Fr (fun _ => False) w w') (by kernel_rfl) ((Fr.refl (fun _ => False) w).drew) (fun hS0 => ?_)
            refine anyH_take 0 25 (.string s) rfl rfl (by kernel_rfl) (by kernel_rfl) (by kernel_rfl) (fun _ _ _ h => h) (.inl ⟨by rfl, fun w'' hS => by go_simp⟩) hS0 ?_
            (simp only [List.setIfInBounds_toArray, List.set_cons_zero, List.set_cons_succ])
            refine anyH_take 1 26 (.string t) rfl rfl (by kernel_rfl) (by kernel_rfl) (by kernel_rfl) (fun _ _ _ h => h) (.inl ⟨by rfl, fun w'' hS => by go_simp⟩) hS0 ?_
            (simp only [List.setIfInBounds_toArray, List.set_cons_zero, List.set_cons_succ])
            refine anyH_take 3 28 (.string s) rfl rfl (by kernel_rfl) (by kernel_rfl) (by kernel_rfl) (fun _ _ _ h => h) (.inl ⟨by rfl, fun w'' hS => by go_simp⟩) hS0 ?_
            (simp only [List.setIfInBounds_toArray, List.set_cons_zero, List.set_cons_succ])
            refine anyH_take 4 29 (.int .u8 (s[12].toNat : Int)) rfl rfl (by kernel_rfl) (by kernel_rfl) (by kernel_rfl) (fun _ _ _ h => h) (.inl ⟨by rfl, fun w'' hS => by go_simp⟩) hS0 ?_
            (simp only [List.setIfInBounds_toArray, List.set_cons_zero, List.set_cons_succ])
            refine anyH_enter 2 27 (f := 115) (args := #[.string t]) (by kernel_rfl) rfl rfl (by rfl) (by go_simp) ?_
            refine (HDG.out w.drew).mono ?_
            rintro en wa ⟨rfl, rfl⟩
            refine ⟨_, rfl, hS0, ?_⟩
            (simp only [List.setIfInBounds_toArray, List.set_cons_zero, List.set_cons_succ])
            refine anyH_take 5 30 (.bool false) rfl rfl (by kernel_rfl) (by kernel_rfl) (by kernel_rfl) (fun _ _ _ h => h) (.inl ⟨by rfl, fun w'' hS => by go_simp⟩) hS0 ?_
            (simp only [List.setIfInBounds_toArray, List.set_cons_zero, List.set_cons_succ])
            refine wpAnyH_done (by kernel_rfl) ?_ _
            have HSF := Lib.hid hS0
            clear hS0
            go_wp2_with fail
            refine (HW.out _).mono ?_
            rintro e w4 ⟨rfl, rfl⟩
            go_wp2_with fail
            go_ret2
            exact ⟨rfl, HSF.out⟩
          · have e12 : ((cu.toNat : Int) != (z : Int)) = true := by rw [bne_iff_ne]; omega
            have e : ofE s.data.toList = 11 := by rw [HE.out, if_pos hc]
            obtain rfl : y = 11 := by rw [HX.out.2, e]
            obtain rfl : x = 0 := by rw [HX.out.1]; unfold ofN; rw [e]; rfl
            rw [hz12] at e12
            clear hE htl htd hcd hcu hcun hz hd hl e hc h12' HE HW
            go_wp2_with fail
            (try simp only [Act.put, List.setIfInBounds_toArray, List.set_cons_zero, List.set_cons_succ])
            refine wp_region_held_drew (S := fun w' => Fr (fun _ => False) w w') (by kernel_rfl) ((Fr.refl (fun _ => False) w).drew) (fun hS0 => ?_)
            refine anyH_take 0 25 (.string s) rfl rfl (by kernel_rfl) (by kernel_rfl) (by kernel_rfl) (fun _ _ _ h => h) (.inl ⟨by rfl, fun w'' hS => by go_simp⟩) hS0 ?_
            (simp only [List.setIfInBounds_toArray, List.set_cons_zero, List.set_cons_succ])
            refine anyH_take 1 26 (.string t) rfl rfl (by kernel_rfl) (by kernel_rfl) (by kernel_rfl) (fun _ _ _ h => h) (.inl ⟨by rfl, fun w'' hS => by go_simp⟩) hS0 ?_
            (simp only [List.setIfInBounds_toArray, List.set_cons_zero, List.set_cons_succ])
            refine anyH_take 3 28 (.string s) rfl rfl (by kernel_rfl) (by kernel_rfl) (by kernel_rfl) (fun _ _ _ h => h) (.inl ⟨by rfl, fun w'' hS => by go_simp⟩) hS0 ?_
            (simp only [List.setIfInBounds_toArray, List.set_cons_zero, List.set_cons_succ])
            refine anyH_take 4 29 (.int .u8 (s[12].toNat : Int)) rfl rfl (by kernel_rfl) (by kernel_rfl) (by kernel_rfl) (fun _ _ _ h => h) (.inl ⟨by rfl, fun w'' hS => by go_simp⟩) hS0 ?_
            (simp only [List.setIfInBounds_toArray, List.set_cons_zero, List.set_cons_succ])
            refine anyH_enter 2 27 (f := 115) (args := #[.string t]) (by kernel_rfl) rfl rfl (by rfl) (by go_simp) ?_
            refine (HDG.out w.drew).mono ?_
            rintro en wa ⟨rfl, rfl⟩
            refine ⟨_, rfl, hS0, ?_⟩
            (simp only [List.setIfInBounds_toArray, List.set_cons_zero, List.set_cons_succ])
            refine anyH_take 5 30 (.bool true) rfl rfl (by kernel_rfl) (by kernel_rfl) (by kernel_rfl) (fun _ _ _ h => h) (.inl ⟨by rfl, fun w'' hS => by go_simp⟩) hS0 ?_
            (simp only [List.setIfInBounds_toArray, List.set_cons_zero, List.set_cons_succ])
            refine wpAnyH_done (by kernel_rfl) ?_ _
            have HSF := Lib.hid hS0
            clear hS0
            go_wp2_with fail
            go_ret2
            exact ⟨rfl, HSF.out⟩
  · have hb13 : ((s.size : Int) != 13) = true := by rw [bne_iff_ne]; omega
    have e : ofE s.data.toList = 4 := by unfold ofE; rw [if_pos (.inl (by rw [← size_list]; exact h13))]
    obtain rfl : y = 4 := by rw [HX.out.2, e]
    obtain rfl : x = 0 := by rw [HX.out.1]; unfold ofN; rw [e]; rfl
    clear e h13
    go_enter Try.func100, Try.ntmps100
    go_wp2_with fail
    go_ret2
    exact ⟨rfl, Fr.refl _ _⟩
set_option maxRecDepth 100000 in
/-- Check. -/
theorem rcheck_any (n : Nat) (hn : n < 18446744073709551616) (w : World) : Calls Try.prog 76 #[.int .u64 n] w fun e w' => e = .returned (.int .i64 (chkE n : Nat)) ∧ Fr (fun _ => False) w w' := by
  have HD := Lib.hid (rdigits_any n hn w)
  have hl := txt_len_le 19 n (by omega)
  obtain ⟨y, hy⟩ : ∃ y, y = ofE (txt n) := ⟨_, rfl⟩
  obtain ⟨v, hv⟩ : ∃ v, v = chkE n := ⟨_, rfl⟩
  have hc := chk_txt n
  rw [← hy, ← hv] at hc
  rw [← hv]
  have HL := Lib.hid (And.intro hl hy)
  clear hl hy hv hn
  go_enter Try.func76, Try.ntmps76
  go_wp2_with fail
  refine HD.out.mono ?_
  rintro e w1 ⟨s, rfl, hs, f⟩
  have HO := Lib.hid (rof_any s (by rw [size_list, hs]; have := HL.out.1; omega) w1)
  rw [hs, ← HL.out.2] at HO
  have HF := Lib.hid f
  clear hs f HD
  by_cases h4 : y = 4
  · subst h4
    rw [if_pos rfl] at hc
    subst hc
    go_wp2_with fail
    refine HO.out.mono ?_
    rintro e w2 ⟨rfl, f2⟩
    have HG := Lib.hid (HF.out.trans f2 (fun _ _ q => q))
    clear f2
    go_wp2_with fail
    go_ret
    exact ⟨rfl, HG.out⟩
  · rw [if_neg h4] at hc
    subst hc
    have hb : ((y : Int) != 4) = true := by rw [bne_iff_ne]; omega
    go_wp2_with fail
    refine HO.out.mono ?_
    rintro e w2 ⟨rfl, f2⟩
    have HG := Lib.hid (HF.out.trans f2 (fun _ _ q => q))
    clear f2
    go_wp2_with fail
    go_ret
    exact ⟨rfl, HG.out⟩
set_option maxRecDepth 100000 in
theorem chk_len {n : Nat} (h : chkE n = 0) : (txt n).length = 13 ∧ dval ((txt n).take 3) = carN n ∧ dval (((txt n).take 12).drop 3) = serN n := by
  have hn : ¬ (n < 1000000000000 ∨ 9999999999999 < n) := fun q => by unfold chkE at h; rw [if_pos q] at h; cases h
  have hl1 := txt_len_le 12 n (by have : (10 : Nat) ^ 13 = 10000000000000 := rfl; omega)
  have hl2 := txt_len_ge 12 n (by have : (10 : Nat) ^ 12 = 1000000000000 := rfl; omega)
  have hl : (txt n).length = 13 := by omega
  obtain ⟨hd, hv, _⟩ := txt_digs n
  have h3 := (dval_cut (txt n) 3 hd).1
  have h12 := (dval_cut (txt n) 12 hd).1
  have hd12 : ((txt n).take 12).all isDig = true := by
    rw [List.all_eq_true] at hd ⊢
    exact fun x hx => hd x (List.mem_of_mem_take hx)
  have hs := (dval_cut ((txt n).take 12) 3 hd12).2
  have hl12 : ((txt n).take 12).length = 12 := by rw [List.length_take, hl]; rfl
  rw [hl, hv] at h3 h12
  rw [hl12, h12] at hs
  refine ⟨hl, ?_, ?_⟩
  · rw [h3]
    unfold carN
    rw [if_pos h]
  · rw [hs]
    unfold serN
    rw [if_pos h]
set_option maxRecDepth 100000 in
/-- Parts. -/
theorem rparts_any (n : Nat) (hn : n < 18446744073709551616) (w : World) : Calls Try.prog 90 #[.int .u64 n] w fun e w' => e = .returned (.tuple #[.int .i64 (carN n : Nat), .int .i64 (serN n : Nat)]) ∧ Fr (fun _ => False) w w' := by
  have HC := Lib.hid (rcheck_any n hn w)
  have HD := Lib.hid (fun W => rdigits_any n hn W)
  by_cases h : chkE n = 0
  · have hf := chk_len h
    have hp := mkN_of h
    rw [h] at HC
    obtain ⟨c, hc⟩ : ∃ c, c = carN n := ⟨_, rfl⟩
    obtain ⟨s, hs⟩ : ∃ s, s = serN n := ⟨_, rfl⟩
    rw [← hc, ← hs] at hf hp ⊢
    have hc9 : c ≤ 999 := hp.2.1
    have hs9 : s ≤ 999999999 := hp.2.2.1
    have HF := Lib.hid hf
    have HDG := Lib.hid (txt_digs n).1
    clear hf hp h hc hs hn
    go_enter Try.func90, Try.ntmps90
    go_wp2_with fail
    refine HC.out.mono ?_
    rintro e w1 ⟨rfl, f1⟩
    have H1 := Lib.hid f1
    clear f1 HC
    go_wp2_with fail
    refine (HD.out w1).mono ?_
    rintro e w2 ⟨t, rfl, ht, f2⟩
    have htz : t.size = 13 := by rw [size_list, ht, HF.out.1]
    obtain ⟨t3, h3⟩ : ∃ x, t.extract 0 3 = x := ⟨_, rfl⟩
    obtain ⟨t9, h9⟩ : ∃ x, t.extract 3 12 = x := ⟨_, rfl⟩
    have h3l : t3.data.toList = (txt n).take 3 := by rw [← h3, ext_list, ht]; rfl
    have h9l : t9.data.toList = ((txt n).take 12).drop 3 := by rw [← h9, ext_list, ht]
    have hd := HDG.out
    have HW3 := Lib.hid (fun W => rworth_any t3 (by rw [size_list, h3l, List.length_take]; omega) (by rw [h3l, List.all_eq_true]; exact fun z hz => List.all_eq_true.1 hd z (List.mem_of_mem_take hz)) (by rw [h3l, HF.out.2.1]; omega) W)
    have HW9 := Lib.hid (fun W => rworth_any t9 (by rw [size_list, h9l, List.length_drop, List.length_take]; omega) (by rw [h9l, List.all_eq_true]; exact fun z hz => List.all_eq_true.1 hd z (List.mem_of_mem_take (List.mem_of_mem_drop hz))) (by rw [h9l, HF.out.2.2]; omega) W)
    simp only [h3l, HF.out.2.1] at HW3
    simp only [h9l, HF.out.2.2] at HW9
    have H2 := Lib.hid (H1.out.trans f2 (fun _ _ q => q))
    clear h3l h9l hd ht f2 HD HDG
    have hc63 : IntKind.i64.wrap (c : Int) = (c : Int) := by simp [IntKind.wrap, IntKind.signed, IntKind.bits]; omega
    have hs63 : IntKind.i64.wrap (s : Int) = (s : Int) := by simp [IntKind.wrap, IntKind.signed, IntKind.bits]; omega
    go_wp2_with fail
    (try simp only [Act.put, List.setIfInBounds_toArray, List.set_cons_zero, List.set_cons_succ])
    refine wp_region_held_drew (S := fun w' => Fr (fun _ => False) w w') (by kernel_rfl) (H2.out.drew) (fun hS0 => ?_)
    refine anyH_take 0 10 (.string t) rfl rfl (by kernel_rfl) (by kernel_rfl) (by kernel_rfl) (fun _ _ _ h => h) (.inl ⟨by rfl, fun w'' hS => by go_simp⟩) hS0 ?_
    (simp only [List.setIfInBounds_toArray, List.set_cons_zero, List.set_cons_succ])
    refine anyH_take 1 11 (.string t3) rfl rfl (by kernel_rfl) (by kernel_rfl) (by kernel_rfl) (fun _ _ _ h => h) (.inl ⟨by rfl, fun w'' hS => by go_simp⟩) hS0 ?_
    (simp only [List.setIfInBounds_toArray, List.set_cons_zero, List.set_cons_succ])
    refine anyH_take 4 14 (.string t) rfl rfl (by kernel_rfl) (by kernel_rfl) (by kernel_rfl) (fun _ _ _ h => h) (.inl ⟨by rfl, fun w'' hS => by go_simp⟩) hS0 ?_
    (simp only [List.setIfInBounds_toArray, List.set_cons_zero, List.set_cons_succ])
    refine anyH_take 5 15 (.string t9) rfl rfl (by kernel_rfl) (by kernel_rfl) (by kernel_rfl) (fun _ _ _ h => h) (.inl ⟨by rfl, fun w'' hS => by go_simp⟩) hS0 ?_
    (simp only [List.setIfInBounds_toArray, List.set_cons_zero, List.set_cons_succ])
    refine anyH_enter 2 12 (f := 95) (args := #[.string t3]) (by kernel_rfl) rfl rfl (by rfl) (by go_simp) ?_
    refine (HW3.out w2.drew).mono ?_
    rintro en wa ⟨rfl, rfl⟩
    refine ⟨_, rfl, hS0, ?_⟩
    (simp only [List.setIfInBounds_toArray, List.set_cons_zero, List.set_cons_succ])
    refine anyH_take 3 13 (.int .i64 (c : Nat)) rfl rfl (by kernel_rfl) (by kernel_rfl) (by kernel_rfl) (fun _ _ _ h => h) (.inl ⟨by rfl, fun w'' hS => by have q := hc63; go_simp⟩) hS0 ?_
    (simp only [List.setIfInBounds_toArray, List.set_cons_zero, List.set_cons_succ])
    refine anyH_enter 6 16 (f := 95) (args := #[.string t9]) (by kernel_rfl) rfl rfl (by rfl) (by go_simp) ?_
    refine (HW9.out w2.drew).mono ?_
    rintro en wb ⟨rfl, rfl⟩
    refine ⟨_, rfl, hS0, ?_⟩
    (simp only [List.setIfInBounds_toArray, List.set_cons_zero, List.set_cons_succ])
    refine anyH_take 7 17 (.int .i64 (s : Nat)) rfl rfl (by kernel_rfl) (by kernel_rfl) (by kernel_rfl) (fun _ _ _ h => h) (.inl ⟨by rfl, fun w'' hS => by have q := hs63; go_simp⟩) hS0 ?_
    (simp only [List.setIfInBounds_toArray, List.set_cons_zero, List.set_cons_succ])
    refine anyH_take 8 2 (.int .i64 (c : Nat)) rfl rfl (by kernel_rfl) (by kernel_rfl) (by kernel_rfl) (fun _ _ _ h => h) (.inl ⟨by rfl, fun w'' hS => by go_simp⟩) hS0 ?_
    (simp only [List.setIfInBounds_toArray, List.set_cons_zero, List.set_cons_succ])
    refine anyH_take 9 3 (.int .i64 (s : Nat)) rfl rfl (by kernel_rfl) (by kernel_rfl) (by kernel_rfl) (fun _ _ _ h => h) (.inl ⟨by rfl, fun w'' hS => by go_simp⟩) hS0 ?_
    (simp only [List.setIfInBounds_toArray, List.set_cons_zero, List.set_cons_succ])
    refine wpAnyH_done (by kernel_rfl) ?_ _
    have HSF := Lib.hid hS0
    clear hS0
    go_wp2_with fail
    go_ret2
    exact ⟨rfl, HSF.out⟩
  · have ec : carN n = 0 := by unfold carN; rw [if_neg h]
    have es : serN n = 0 := by unfold serN; rw [if_neg h]
    rw [ec, es]
    obtain ⟨y, hy⟩ : ∃ y, y = chkE n := ⟨_, rfl⟩
    rw [← hy] at h HC
    have hb : ((y : Int) != 0) = true := by rw [bne_iff_ne]; omega
    clear ec es hy h HD hn
    go_enter Try.func90, Try.ntmps90
    go_wp2_with fail
    refine HC.out.mono ?_
    rintro e w1 ⟨rfl, f1⟩
    go_wp2_with fail
    go_ret2
    exact ⟨rfl, f1⟩
/-- Is a byte a locator's? -/
def isLoc (c : UInt8) : Bool := decide (65 ≤ c.toNat ∧ c.toNat ≤ 90 ∨ 50 ≤ c.toNat ∧ c.toNat ≤ 57)
def locB (l : List UInt8) : Bool := l.all isLoc && decide (l.length = 6)
set_option maxRecDepth 100000 in
theorem rloc_any (s : ByteArray) (hs : s.size ≤ 1000) (w : World) : Calls Try.prog 34 #[.string s] w fun e w' => e = .returned (.bool (locB s.data.toList)) ∧ w = w' := by
  obtain ⟨b, hb⟩ : ∃ b, b = locB s.data.toList := ⟨_, rfl⟩
  rw [← hb]
  have HB := Lib.hid hb
  clear hb
  go_enter Try.func34, Try.ntmps34
  go_wp2_with fail
  go_loop [3] (fun i => ∃ k : Nat, k ≤ s.size ∧ i = .int .i64 k ∧ Hid ((s.data.toList.take k).all isLoc = true)) (fun i => s.size - (intOf i).toNat)
  case atStart => exact ⟨0, by omega, rfl, rfl⟩
  case round =>
    obtain ⟨k, hk, rfl, hall⟩ := hrel
    by_cases hlt : k < s.size
    · have hts := Lib.hid (take_snoc s k hlt)
      have hki : (k : Int) < (s.size : Int) := by omega
      have HQ : Hid (isLoc s[k] = true → (s.data.toList.take (k + 1)).all isLoc = true) := Lib.hid fun q => by rw [hts.out, List.all_append, hall.out]; simp [q]
      have HN : Hid (isLoc s[k] = false → b = false) := Lib.hid fun q => by
        rw [HB.out]
        unfold locB
        rw [Bool.and_eq_false_iff]
        refine .inl (List.all_eq_false.2 ⟨s[k], List.mem_of_getElem? (get_lst s k hlt), by rw [q]; decide⟩)
      obtain ⟨z, hz⟩ : ∃ z, z = s[k].toNat := ⟨_, rfl⟩
      have HZ : Hid (isLoc s[k] = decide (65 ≤ z ∧ z ≤ 90 ∨ 50 ≤ z ∧ z ≤ 57)) := Lib.hid (by rw [hz]; rfl)
      clear hts
      by_cases h65 : 65 ≤ z
      · by_cases h90 : z ≤ 90
        · have d1 : decide ((65 : Int) ≤ (s[k].toNat : Int)) = true := by rw [decide_eq_true_eq]; omega
          have d2 : decide ((s[k].toNat : Int) ≤ 90) = true := by rw [decide_eq_true_eq]; omega
          have H1 := Lib.hid (HQ.out (by rw [HZ.out, decide_eq_true_eq]; omega))
          clear hz h65 h90 HZ HQ HN
          go_wp2_with fail
          exact ⟨⟨k + 1, by omega, by go_num, H1⟩, by simp [intOf]; omega⟩
        · have d1 : decide ((65 : Int) ≤ (s[k].toNat : Int)) = true := by rw [decide_eq_true_eq]; omega
          have d2 : decide ((s[k].toNat : Int) ≤ 90) = false := by rw [decide_eq_false_iff_not]; omega
          have d3 : decide ((50 : Int) ≤ (s[k].toNat : Int)) = true := by rw [decide_eq_true_eq]; omega
          have d4 : decide ((s[k].toNat : Int) ≤ 57) = false := by rw [decide_eq_false_iff_not]; omega
          obtain rfl := HN.out (by rw [HZ.out, decide_eq_false_iff_not]; omega)
          clear hz h65 h90 HZ HQ HN
          go_wp2_with fail
          go_ret
          exact ⟨rfl, rfl⟩
      · have d1 : decide ((65 : Int) ≤ (s[k].toNat : Int)) = false := by rw [decide_eq_false_iff_not]; omega
        by_cases h50 : 50 ≤ z
        · have d3 : decide ((50 : Int) ≤ (s[k].toNat : Int)) = true := by rw [decide_eq_true_eq]; omega
          by_cases h57 : z ≤ 57
          · have d4 : decide ((s[k].toNat : Int) ≤ 57) = true := by rw [decide_eq_true_eq]; omega
            have H1 := Lib.hid (HQ.out (by rw [HZ.out, decide_eq_true_eq]; omega))
            clear hz h65 h50 h57 HZ HQ HN
            go_wp2_with fail
            exact ⟨⟨k + 1, by omega, by go_num, H1⟩, by simp [intOf]; omega⟩
          · have d4 : decide ((s[k].toNat : Int) ≤ 57) = false := by rw [decide_eq_false_iff_not]; omega
            obtain rfl := HN.out (by rw [HZ.out, decide_eq_false_iff_not]; omega)
            clear hz h65 h50 h57 HZ HQ HN
            go_wp2_with fail
            go_ret
            exact ⟨rfl, rfl⟩
        · have d3 : decide ((50 : Int) ≤ (s[k].toNat : Int)) = false := by rw [decide_eq_false_iff_not]; omega
          obtain rfl := HN.out (by rw [HZ.out, decide_eq_false_iff_not]; omega)
          clear hz h65 h50 HZ HQ HN
          go_wp2_with fail
          go_ret
          exact ⟨rfl, rfl⟩
    · have hta := take_all s k hlt
      have hal := hall.out
      rw [hta] at hal
      by_cases h6 : s.size = 6
      · have e : b = true := by rw [HB.out]; unfold locB; rw [hal, ← size_list, h6]; rfl
        subst e
        have hb6 : ((s.size : Int) == 6) = true := by rw [beq_iff_eq]; omega
        clear hta hal HB hall
        go_wp2_with fail
        go_ret
        exact ⟨rfl, rfl⟩
      · have e : b = false := by rw [HB.out]; unfold locB; rw [hal, ← size_list, decide_eq_false h6]; rfl
        subst e
        have hb6 : ((s.size : Int) == 6) = false := by rw [beq_eq_false_iff_ne]; omega
        clear hta hal HB hall
        go_wp2_with fail
        go_ret
        exact ⟨rfl, rfl⟩
end Go.Proofs.Ytmopkfjnjbimnaa

