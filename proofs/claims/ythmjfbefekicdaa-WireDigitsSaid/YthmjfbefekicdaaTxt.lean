/- couponref01's decimal texts: Text, MayDecimal, worth, Above, Decimal. -/
import Derived.Test.YthmjfbefekicdaaEnd
import Derived.Test.YthmjfbefekicdaaDec
import Derived.WalkSpells
import Derived.WalkLawsBesides
namespace Go.Proofs.Ythmjfbefekicdaa
open Go.RowKit

theorem txt_len (m : Nat) : ∀ n, n < 10 ^ (m + 1) → (txt n).length ≤ m + 1 := by
  induction m with
  | zero => intro n h; rw [txt_lt n (by omega)]; simp
  | succ m ih =>
    intro n h
    by_cases h10 : n < 10
    · rw [txt_lt n h10]; simp
    · rw [txt_ge n h10]
      have := ih (n / 10) (by rw [Nat.pow_succ] at h; omega)
      simp only [List.length_append, List.length_cons, List.length_nil]
      omega

/-- Where the making of a text stands. -/
def TxtAt (n k : Nat) (l : List UInt8) : Prop := (0 < k ∧ txt n = txt k ++ l) ∨ (k = 0 ∧ l = [] ∧ n = 0) ∨ (k = 0 ∧ l ≠ [] ∧ txt n = l)
theorem TxtAt.start (n : Nat) : TxtAt n n [] := by
  rcases Nat.eq_zero_or_pos n with rfl | h
  · exact .inr (.inl ⟨rfl, rfl, rfl⟩)
  · exact .inl ⟨h, by simp⟩
theorem TxtAt.step {n k : Nat} {l : List UInt8} (h : TxtAt n k l) (hq : 0 < k ∨ l = []) : TxtAt n (k / 10) (UInt8.ofNat (48 + k % 10) :: l) := by
  rcases h with ⟨hk, e⟩ | ⟨rfl, rfl, rfl⟩ | ⟨rfl, hl, _⟩
  · by_cases h10 : k < 10
    · refine .inr (.inr ⟨by omega, by simp, ?_⟩)
      rw [e, txt_lt k h10, Nat.mod_eq_of_lt h10]
      rfl
    · refine .inl ⟨by omega, ?_⟩
      rw [e, txt_ge k h10, List.append_assoc]
      rfl
  · exact .inr (.inr ⟨rfl, by simp, txt_zero⟩)
  · rcases hq with h | h
    · omega
    · exact absurd h hl
theorem TxtAt.len {n k : Nat} {l : List UInt8} (h : TxtAt n k l) (hn : n < 18446744073709551616) : l.length ≤ 20 := by
  have := txt_len 19 n (by omega)
  rcases h with ⟨_, e⟩ | ⟨_, rfl, _⟩ | ⟨_, _, e⟩
  · rw [e, List.length_append] at this; omega
  · simp
  · rw [e] at this; omega

/-- One, of an empty text. -/
def noneYet : Value → Nat
  | .string s => 1 - s.size
  | _ => 0

theorem conv_one (w : World) (c : UInt8) : (convert 26 9 (.slice (some ⟨w.heap.size, 0, none⟩) 1 1)).run Try.prog (w.alloc (.cells #[.int .u8 (c.toNat : Int)] 5)) = .ok (.string ⟨#[c]⟩) (w.alloc (.cells #[.int .u8 (c.toNat : Int)] 5)) :=
  conv_string (P := Try.prog) 26 9 5 (Rd.one w 5 c) Try.underlying26 Try.underlying5 Try.underlying9

theorem str_app (c : UInt8) (s : ByteArray) : ((⟨#[c]⟩ : ByteArray) ++ s).data.toList = c :: s.data.toList := by
  rw [ByteArray.data_append]
  simp

set_option maxHeartbeats 1000000 in
theorem text_any (n : Nat) (hn : n < 18446744073709551616) (w : World) :
    Calls Try.prog 40 #[.int .u64 n] w fun e w' => ∃ s : ByteArray, e = .returned (.string s) ∧ s.data.toList = txt n ∧ Fr (fun _ => False) w w' := by
  have hst := Lib.hid (TxtAt.start n)
  have HN := Lib.hid hn
  clear hn
  go_enter Try.func40, Try.ntmps40
  go_wp2_with fail
  go_loopw [0, 3] (fun v x wr => ∃ (k : Nat) (s : ByteArray), v = .int .u64 k ∧ x = .string s ∧ k ≤ n ∧ Hid (TxtAt n k s.data.toList) ∧ Fr (fun _ => False) w wr) (fun v x _ => (intOf v).toNat + noneYet x)
  case atStart => exact ⟨n, ⟨#[]⟩, rfl, rfl, Nat.le_refl _, hst, Fr.refl _ _⟩
  case round =>
    obtain ⟨k, s, rfl, rfl, hkn, hat, hf⟩ := hrel
    have hlen := hat.out.len HN.out
    rw [Array.length_toList] at hlen
    have hsz : s.size ≤ 20 := hlen
    clear hlen
    obtain ⟨c, hc⟩ : ∃ c : UInt8, c = UInt8.ofNat (48 + k % 10) := ⟨_, rfl⟩
    have hcv : (c.toNat : Int) = 48 + (k : Int) % 10 := by rw [hc, toNat_dig (k % 10) (by omega)]; omega
    have HC := Lib.hid hc
    have hc1 := conv_one wr c
    rw [hcv] at hc1
    clear hc hcv
    have hw : IntKind.u64.wrap ((k : Int) / 10) = ((k / 10 : Nat) : Int) := by rw [wrapU]; have := HN.out; omega
    have hs1 : ((⟨#[c]⟩ : ByteArray) ++ s).size = s.size + 1 := by
      have h1 : (⟨#[c]⟩ : ByteArray).size = 1 := rfl
      rw [ByteArray.size_append, h1]
      omega
    have HS := Lib.hid hs1
    clear hs1
    by_cases hk : 0 < k
    · have hd : decide ((0 : Int) < (k : Int)) = true := by rw [decide_eq_true_eq]; omega
      have hstep := Lib.hid (hat.out.step (.inl hk))
      go_wp2_with fail
      refine ⟨⟨k / 10, _, rfl, rfl, by omega, Lib.hid ?_, hf.alloc _⟩, ?_⟩
      · rw [str_app, HC.out]
        exact hstep.out
      · simp only [intOf, noneYet, HS.out]
        omega
    · obtain rfl : k = 0 := by omega
      clear hk hc1
      have hc2 := conv_one wr c
      have hcv : (c.toNat : Int) = 48 := by rw [HC.out]; rfl
      rw [hcv] at hc2
      clear hcv
      by_cases h0 : s.size = 0
      · have hl : s.data.toList = [] := List.eq_nil_of_length_eq_zero (by rw [Array.length_toList]; exact h0)
        have hstep := Lib.hid (hat.out.step (.inr hl))
        have hl2 : s.toList = [] := by rw [ByteArray.toList_eq]; exact hl
        have H0 := Lib.hid h0
        clear h0 hl
        go_wp2_with fail
        refine ⟨⟨0, _, rfl, rfl, by omega, Lib.hid ?_, hf.alloc _⟩, ?_⟩
        · rw [str_app, HC.out]
          exact hstep.out
        · simp only [intOf, noneYet, HS.out, H0.out]
          omega
      · have hl : s.data.toList ≠ [] := fun h => h0 (by rw [← List.length_eq_zero_iff, Array.length_toList] at h; exact h)
        have hl2 : s.toList = [] ↔ False := by rw [ByteArray.toList_eq]; exact ⟨fun h => hl h, fun h => h.elim⟩
        have hl3 : (s.toList == []) = false := by rw [ByteArray.toList_eq, beq_eq_false_iff_ne]; exact hl
        have hl4 : s.toList.isEmpty = false := by rw [ByteArray.toList_eq, List.isEmpty_eq_false_iff]; exact hl
        have hfin : s.data.toList = txt n := by
          rcases hat.out with ⟨h, _⟩ | ⟨_, h, _⟩ | ⟨_, _, h⟩
          · omega
          · exact absurd h hl
          · exact h.symm
        have HF := Lib.hid hfin
        clear hfin hl h0 hl2
        go_wp2
        go_ret
        exact ⟨s, rfl, HF.out, hf⟩

theorem take_snoc (s : ByteArray) (k : Nat) (h : k < s.size) : s.data.toList.take (k + 1) = s.data.toList.take k ++ [s[k]] := by
  rw [List.take_succ_eq_append_getElem (by simpa using h)]; rfl
theorem take_all (s : ByteArray) (k : Nat) (h : ¬ k < s.size) : s.data.toList.take k = s.data.toList := List.take_of_length_le (by rw [Array.length_toList]; exact Nat.le_of_not_lt h)

theorem get_lst (s : ByteArray) (k : Nat) (h : k < s.size) : s.data.toList[k]? = some s[k] := by
  rw [List.getElem?_eq_getElem (by rw [Array.length_toList]; exact h)]
  rfl

theorem may_any (s : ByteArray) (hs : s.size ≤ 1000) (w : World) :
    Calls Try.prog 62 #[.string s] w fun e w' => e = .returned (.bool (mayB s.data.toList)) ∧ w = w' := by
  obtain ⟨b, hb⟩ : ∃ b, b = mayB s.data.toList := ⟨_, rfl⟩
  rw [← hb]
  have HB := Lib.hid hb
  clear hb
  go_enter Try.func62, Try.ntmps62
  go_wp2_with fail
  go_loop [3] (fun i => ∃ k : Nat, k ≤ s.size ∧ i = .int .i64 k ∧ Hid ((s.data.toList.take k).all isDig = true)) (fun i => s.size - (intOf i).toNat)
  case atStart => exact ⟨0, by omega, rfl, rfl⟩
  case round =>
    obtain ⟨k, hk, rfl, hall⟩ := hrel
    by_cases hlt : k < s.size
    · have hts := Lib.hid (take_snoc s k hlt)
      by_cases hdig : 48 ≤ s[k].toNat ∧ s[k].toNat ≤ 57
      · obtain ⟨hd1, hd2⟩ := hdig
        have hd3 : decide ((s[k].toNat : Int) < 48) = false := by rw [decide_eq_false_iff_not]; omega
        have hd4 : decide (57 < (s[k].toNat : Int)) = false := by rw [decide_eq_false_iff_not]; omega
        go_wp2_with fail
        refine ⟨⟨k + 1, by omega, by go_num, Lib.hid ?_⟩, by simp [intOf]; omega⟩
        rw [hts.out, List.all_append, hall.out]
        simp [isDig, hd1, hd2]
      · have hfin : b = false := by
          rw [HB.out]
          have : s.data.toList.all isDig = false := by
            rw [List.all_eq_false]
            refine ⟨s[k], List.mem_of_getElem? (get_lst s k hlt), ?_⟩
            simp only [isDig, decide_eq_true_eq]
            exact hdig
          unfold mayB
          rw [this]
          rfl
        subst hfin
        by_cases hlo : s[k].toNat < 48
        · have hd3 : decide ((s[k].toNat : Int) < 48) = true := by rw [decide_eq_true_eq]; omega
          clear hdig
          go_wp2_with fail
          go_ret
          exact ⟨rfl, rfl⟩
        · have hd3 : decide ((s[k].toNat : Int) < 48) = false := by rw [decide_eq_false_iff_not]; omega
          have hd4 : decide (57 < (s[k].toNat : Int)) = true := by rw [decide_eq_true_eq]; omega
          clear hdig
          go_wp2_with fail
          go_ret
          exact ⟨rfl, rfl⟩
    · have hta := take_all s k hlt
      have hal := hall.out
      rw [hta] at hal
      have hb : b = (s.data.toList == [48] || (!s.data.toList.isEmpty && !(s.data.toList.head? == some 48))) := by rw [HB.out]; unfold mayB; rw [hal]; rfl
      clear hta hal hall HB
      by_cases h48 : s.data.toList = [48]
      · rw [h48] at hb
        simp at hb
        subst hb
        have h1 : (s.toList == [48]) = true := by rw [ByteArray.toList_eq, h48]; rfl
        clear h48
        go_wp2_with fail
        go_ret
        exact ⟨rfl, rfl⟩
      · have h1 : (s.toList == [48]) = false := by rw [ByteArray.toList_eq, beq_eq_false_iff_ne]; exact h48
        cases hl : s.data.toList with
        | nil =>
          rw [hl] at hb
          simp at hb
          subst hb
          have h2 : s.toList = [] := by rw [ByteArray.toList_eq]; exact hl
          clear hl h48
          go_wp2_with fail
          go_ret
          exact ⟨rfl, rfl⟩
        | cons c r =>
          rw [hl] at hb h48
          have h2 : (s.toList == []) = false := by rw [ByteArray.toList_eq, hl]; rfl
          have h3 : s.toList.isEmpty = false := by rw [ByteArray.toList_eq, hl]; rfl
          have hpos : 0 < s.size := by have := congrArg List.length hl; rw [Array.length_toList] at this; simp at this; exact this ▸ Nat.succ_pos _
          have h0 : s[0] = c := by
            have : s.data.toList[0]? = some c := by rw [hl]; rfl
            rw [List.getElem?_eq_getElem (by rw [Array.length_toList]; exact hpos)] at this
            injection this
          by_cases hc : c = 48
          · subst hc
            have hb' : b = false := by rw [hb]; simp at h48 ⊢; exact h48
            subst hb'
            have h4 : ((s[0].toNat : Int) != 48) = false := by rw [h0]; rfl
            clear hl h48 hb h0
            go_wp2_with fail
            go_ret
            exact ⟨rfl, rfl⟩
          · have hb' : b = true := by rw [hb]; simp [hc]
            subst hb'
            have h4 : ((s[0].toNat : Int) != 48) = true := by
              rw [h0, bne_iff_ne]
              intro e
              exact hc (UInt8.toNat_inj.1 (by show c.toNat = 48; omega))
            clear hl h48 hb h0 hc
            go_wp2_with fail
            go_ret
            exact ⟨rfl, rfl⟩

/-- worth: what digits come to, if it is a number of 8 bytes. -/
theorem worth_any (s : ByteArray) (hs : s.size ≤ 1000) (hd : s.data.toList.all isDig = true) (hv : dval s.data.toList < 18446744073709551616) (w : World) :
    Calls Try.prog 64 #[.string s] w fun e w' => e = .returned (.int .u64 (dval s.data.toList : Nat)) ∧ w = w' := by
  have hpre : ∀ k, dval (s.data.toList.take k) ≤ dval s.data.toList := by
    intro k
    have h := dval_app (s.data.toList.take k) (s.data.toList.drop k)
    rw [List.take_append_drop] at h
    have := Nat.le_mul_of_pos_right (dval (s.data.toList.take k)) (show 0 < 10 ^ (s.data.toList.drop k).length from Nat.pow_pos (by omega))
    omega
  obtain ⟨b, hb⟩ : ∃ b, b = dval s.data.toList := ⟨_, rfl⟩
  rw [← hb]
  have HB := Lib.hid hb
  have HV := Lib.hid hv
  have HD := Lib.hid hd
  have HP := Lib.hid hpre
  clear hb hv hd hpre
  go_enter Try.func64, Try.ntmps64
  go_wp2_with fail
  go_loop [3, 4] (fun n i => ∃ k : Nat, k ≤ s.size ∧ i = .int .i64 k ∧ n = .int .u64 (dval (s.data.toList.take k) : Nat)) (fun _ i => s.size - (intOf i).toNat)
  case atStart => exact ⟨0, by omega, rfl, rfl⟩
  case round =>
    obtain ⟨k, hk, rfl, rfl⟩ := hrel
    by_cases hlt : k < s.size
    · have hts := take_snoc s k hlt
      have hdg : isDig s[k] = true := List.all_eq_true.1 HD.out _ (List.mem_of_getElem? (get_lst s k hlt))
      have hdg' : 48 ≤ s[k].toNat ∧ s[k].toNat ≤ 57 := of_decide_eq_true hdg
      have hn := HP.out (k + 1)
      rw [hts, dval_snoc] at hn
      have hnext := dval_snoc (s.data.toList.take k) s[k]
      rw [← hts] at hnext
      have HN := Lib.hid hnext
      have hw1 : IntKind.u64.wrap ((dval (s.data.toList.take k) : Nat) * (10 : Int)) = ((dval (s.data.toList.take k) * 10 : Nat) : Int) := by rw [wrapU]; have := HV.out; omega
      have hw2 : IntKind.u8.wrap ((s[k].toNat : Int) - 48) = ((s[k].toNat - 48 : Nat) : Int) := by
        have : IntKind.u8.wrap ((s[k].toNat : Int) - 48) = ((s[k].toNat : Int) - 48) % 256 := by simp [IntKind.wrap, IntKind.signed, IntKind.bits]
        rw [this]; omega
      have Hn := Lib.hid (Nat.lt_of_le_of_lt hn HV.out)
      clear hts hnext hdg hn
      obtain ⟨hdg1, hdg2⟩ := hdg'
      generalize hx : dval (s.data.toList.take k) = x at *
      go_wp2_with fail
      refine ⟨⟨k + 1, by omega, by go_num, congrArg (Value.int .u64) ?_⟩, by simp [intOf]; omega⟩
      rw [HN.out, wrapU]
      have := Hn.out
      omega
    · have hta := take_all s k hlt
      have hfin : dval (s.data.toList.take k) = b := by rw [hta, HB.out]
      rw [hfin]
      clear hta hfin
      go_wp2_with fail
      go_ret
      exact ⟨rfl, rfl⟩

theorem above_any (s : ByteArray) (hs : s.size ≤ 1000) (n : Nat) (hn : n < 18446744073709551616) (w : World) :
    Calls Try.prog 63 #[.string s, .int .u64 n] w fun e w' => e = .returned (.bool (aboveB s.data.toList (txt n))) ∧ Fr (fun _ => False) w w' := by
  have HC := Lib.hid (text_any n hn w)
  have HL := Lib.hid (txt_len 19 n (by omega))
  obtain ⟨b, hb⟩ : ∃ b, b = aboveB s.data.toList (txt n) := ⟨_, rfl⟩
  rw [← hb]
  have HB := Lib.hid hb
  clear hb hn
  go_enter Try.func63, Try.ntmps63
  go_wp2_with fail
  refine HC.out.mono ?_
  rintro e w1 ⟨t, rfl, ht, hf⟩
  have hts : t.size = (txt n).length := by rw [← ht, Array.length_toList]; rfl
  have ht20 : t.size ≤ 20 := by rw [hts]; exact HL.out
  have hbb : b = (decide (t.size < s.size) || (decide (s.size = t.size) && !(Op.bytesLess s.toList t.toList || s.toList == t.toList))) := by
    rw [HB.out, ← ht, ByteArray.toList_eq, ByteArray.toList_eq]
    unfold aboveB
    rw [Array.length_toList, Array.length_toList]
    rfl
  clear hts ht
  rcases Nat.lt_trichotomy t.size s.size with h | h | h
  · have e1 : decide (t.size < s.size) = true := by rw [decide_eq_true_eq]; exact h
    rw [e1] at hbb
    simp at hbb
    subst hbb
    go_wp2_with fail
    go_ret
    exact ⟨rfl, hf⟩
  · have e1 : decide (t.size < s.size) = false := by rw [decide_eq_false_iff_not]; omega
    have e2 : decide (s.size = t.size) = true := by rw [decide_eq_true_eq]; exact h.symm
    rw [e1, e2] at hbb
    have e3 : ((s.size : Int) == (t.size : Int)) = true := by rw [beq_iff_eq]; omega
    have e4 : decide ((t.size : Int) < (s.size : Int)) = false := by rw [decide_eq_false_iff_not]; omega
    have HBB := Lib.hid hbb
    have e5 : (s.size == t.size) = true := by rw [beq_iff_eq]; omega
    clear hbb h e2
    go_wp2_with fail
    go_ret
    refine ⟨?_, hf⟩
    rw [HBB.out]
    simp
  · have e1 : decide (t.size < s.size) = false := by rw [decide_eq_false_iff_not]; omega
    have e2 : decide (s.size = t.size) = false := by rw [decide_eq_false_iff_not]; omega
    rw [e1, e2] at hbb
    simp at hbb
    subst hbb
    have e3 : ((s.size : Int) == (t.size : Int)) = false := by rw [beq_eq_false_iff_ne]; omega
    have e4 : decide ((t.size : Int) < (s.size : Int)) = false := by rw [decide_eq_false_iff_not]; omega
    have e5 : (s.size == t.size) = false := by rw [beq_eq_false_iff_ne]; omega
    clear h e2
    go_wp2_with fail
    go_ret
    exact ⟨rfl, hf⟩

/-- What a decimal text answers: the number, and which error (0: none). -/
def decE (l : List UInt8) (most : Nat) : Int := if mayB l then (if most < dval l then 5 else 0) else 4
def decN (l : List UInt8) (most : Nat) : Nat := if mayB l then (if most < dval l then 0 else dval l) else 0

theorem rdec_any (s : ByteArray) (hs : s.size ≤ 1000) (n : Nat) (hn : n < 18446744073709551616) (w : World) :
    Calls Try.prog 39 #[.string s, .int .u64 n] w fun e w' => e = .returned (.tuple #[.int .u64 (decN s.data.toList n : Nat), .int .i64 (decE s.data.toList n)]) ∧ Fr (fun _ => False) w w' := by
  have HA := Lib.hid (above_any s hs n hn)
  have HM := Lib.hid (may_any s hs)
  have HN := Lib.hid hn
  clear hn
  cases hm : mayB s.data.toList with
  | false =>
    have e1 : decN s.data.toList n = 0 := by simp [decN, hm]
    have e2 : decE s.data.toList n = 4 := by simp [decE, hm]
    rw [e1, e2]
    rw [hm] at HM
    clear e1 e2 hm HA
    go_enter Try.func39, Try.ntmps39
    go_wp2_with fail
    refine (HM.out _).mono ?_
    rintro e w1 ⟨rfl, rfl⟩
    go_wp2_with fail
    go_ret2
    exact ⟨rfl, Fr.refl _ _⟩
  | true =>
    have hab := above_iff hm (txt_may n)
    rw [(txt_digs n).2.1] at hab
    rw [hab] at HA
    rw [hm] at HM
    by_cases hq : n < dval s.data.toList
    · have e1 : decN s.data.toList n = 0 := by simp [decN, hm, hq]
      have e2 : decE s.data.toList n = 5 := by simp [decE, hm, hq]
      have e3 : decide (n < dval s.data.toList) = true := by simpa using hq
      rw [e1, e2]
      rw [e3] at HA
      clear e1 e2 e3 hm hab hq
      go_enter Try.func39, Try.ntmps39
      go_wp2_with fail
      refine (HM.out _).mono ?_
      rintro e w1 ⟨rfl, rfl⟩
      go_wp2_with fail
      refine (HA.out _).mono ?_
      rintro e w1 ⟨rfl, hf⟩
      go_wp2_with fail
      go_ret2
      exact ⟨rfl, hf⟩
    · have e1 : decN s.data.toList n = dval s.data.toList := by simp [decN, hm, hq]
      have e2 : decE s.data.toList n = 0 := by simp [decE, hm, hq]
      have e3 : decide (n < dval s.data.toList) = false := by simpa using hq
      have HW := Lib.hid (worth_any s hs (mayB_form hm).1 (by have := HN.out; omega))
      rw [e1, e2]
      rw [e3] at HA
      clear e1 e2 e3 hm hab hq
      go_enter Try.func39, Try.ntmps39
      go_wp2_with fail
      refine (HM.out _).mono ?_
      rintro e w1 ⟨rfl, rfl⟩
      go_wp2_with fail
      refine (HA.out _).mono ?_
      rintro e w1 ⟨rfl, hf⟩
      go_wp2_with fail
      refine (HW.out _).mono ?_
      rintro e w2 ⟨rfl, rfl⟩
      go_wp2_with fail
      go_ret2
      exact ⟨rfl, hf⟩
end Go.Proofs.Ythmjfbefekicdaa
