/- wire.Decimal. -/
import Derived.Test.YthmjfbefekicdaaWor
namespace Go.Proofs.Ythmjfbefekicdaa
open Go.RowKit

theorem isD10 (c : UInt8) : isD 10 c = isDig c := by
  unfold isD
  rw [show decide (97 ≤ c.toNat ∧ c.toNat < 87 + 10) = false from by rw [decide_eq_false_iff_not]; omega, Bool.or_false]
theorem isD10f : isD 10 = isDig := funext isD10
theorem wl10_all {l : List UInt8} (h : (wl 10 l).length = l.length) : l.all isDig = true ∧ wl 10 l = l.map dv := by
  unfold wl at h ⊢
  rw [List.length_map] at h
  have e : l.takeWhile (isD 10) = l := by
    have := List.takeWhile_prefix (isD 10) (l := l)
    exact List.IsPrefix.eq_of_length this h
  rw [e]
  refine ⟨?_, rfl⟩
  have := List.all_takeWhile (p := isD 10) (l := l)
  rw [e] at this
  rw [← isD10f]
  exact this
theorem wl10_no {l : List UInt8} (h : (wl 10 l).length ≠ l.length) : mayB l = false := by
  have : l.all isDig = false := by
    rw [Bool.eq_false_iff]
    intro ha
    apply h
    unfold wl
    rw [List.length_map]
    have e : l.takeWhile (isD 10) = l := by
      have := wl_stop 10 l l.length (by rw [List.take_length, isD10f]; exact ha) (fun c hc => by simp at hc)
      unfold wl at this
      have h2 := congrArg List.length this
      rw [List.length_map, List.length_map, List.take_length] at h2
      exact List.IsPrefix.eq_of_length (List.takeWhile_prefix _) h2
    rw [e]
  unfold mayB
  rw [this]
  rfl

theorem dv_dig {c : UInt8} (h : isDig c = true) : (dv c).toNat = c.toNat - 48 := by
  have hc : 48 ≤ c.toNat ∧ c.toNat ≤ 57 := of_decide_eq_true h
  unfold dv
  rw [if_pos hc.2, UInt8.toNat_ofNat']
  omega

theorem dval_take_le (l : List UInt8) (k : Nat) : dval (l.take k) ≤ dval l := by
  have h := dval_app (l.take k) (l.drop k)
  rw [List.take_append_drop] at h
  have := Nat.le_mul_of_pos_right (dval (l.take k)) (show 0 < 10 ^ (l.drop k).length from Nat.pow_pos (by omega))
  omega

set_option maxHeartbeats 4000000 in
set_option maxRecDepth 100000 in
theorem dec_any (s : ByteArray) (hs : s.size ≤ 3000) (m : Nat) (hm : m < 18446744073709551616) (w : World) :
    Calls Try.prog 38 #[.string s, .int .u64 m] w fun e w' => e = .returned (.tuple #[.int .u64 (decN s.data.toList m : Nat), .int .i64 (decE s.data.toList m)]) ∧ Fr (fun _ => False) w w' := by
  have HC := Lib.hid (worths10 s hs w)
  have HM := Lib.hid hm
  clear hm
  obtain ⟨x, hx⟩ : ∃ x, x = decN s.data.toList m := ⟨_, rfl⟩
  obtain ⟨y, hy⟩ : ∃ y, y = decE s.data.toList m := ⟨_, rfl⟩
  rw [← hx, ← hy]
  by_cases hall : (wl 10 s.data.toList).length = s.data.toList.length
  · obtain ⟨hdig, hwl⟩ := wl10_all hall
    have he : (((wl 10 s.data.toList).length : Int) == (s.data.toList.length : Int)) = true := by rw [beq_iff_eq]; omega
    unfold Worths at HC
    rw [he, hwl] at HC
    clear he hwl hall
    have hsz : s.data.toList.length = s.size := by rw [Array.length_toList]; rfl
    cases hl : s.data.toList with
    | nil =>
      obtain rfl : x = 0 := by rw [hx, hl]; rfl
      obtain rfl : y = 4 := by rw [hy, hl]; rfl
      rw [hl] at HC
      clear hx hy hdig hl hsz
      go_enter Try.func38, Try.ntmps38
      go_wp2_with fail
      refine HC.out.mono ?_
      rintro e w1 ⟨v, rfl, hv⟩
      have hf := hv.2
      obtain ⟨A, c, rfl, _⟩ := own_slice hv.1
      clear hv
      go_wp2_with fail
      go_ret2
      exact ⟨rfl, hf⟩
    | cons c r =>
      have hpos : 0 < s.size := by rw [← hsz, hl]; simp
      have hmap : (s.data.toList.map dv).length = s.size := by rw [List.length_map]; exact hsz
      have Hl := Lib.hid hl
      have h00 : ((s.size : Int) == 0) = false := by rw [beq_eq_false_iff_ne]; omega
      by_cases hz : c = 48 ∧ r ≠ []
      · obtain ⟨rfl, hr0⟩ := hz
        have hno : mayB s.data.toList = false := by
          rw [hl]
          cases r with
          | nil => exact absurd rfl hr0
          | cons d r => simp [mayB]
        obtain rfl : x = 0 := by rw [hx]; simp [decN, hno]
        obtain rfl : y = 4 := by rw [hy]; simp [decE, hno]
        have h1 : decide (1 < (s.size : Int)) = true := by
          rw [decide_eq_true_eq, ← hsz, hl]
          cases r with
          | nil => exact absurd rfl hr0
          | cons d r => simp only [List.length_cons]; omega
        clear hx hy hdig hl hsz hno hr0
        go_enter Try.func38, Try.ntmps38
        go_wp2_with fail
        refine HC.out.mono ?_
        rintro e w1 ⟨v, rfl, hv⟩
        have hf := hv.2
        obtain ⟨A, c', rfl, _, _, _, hr⟩ := own_rd hv.1
        rw [hmap] at hr
        rw [hmap]
        obtain ⟨ad, rfl, hc⟩ := hr.2 hpos
        have hc0 := hc 0 (dv 48) (by rw [Hl.out]; rfl)
        rw [show ad.add 0 = ad from rfl, show (((dv 48).toNat : Nat) : Int) = 0 from rfl] at hc0
        clear hv hr hc hmap
        go_wp2_with fail
        go_ret2
        exact ⟨rfl, hf⟩
      · have hmay : mayB s.data.toList = true := by
          unfold mayB
          rw [hdig, hl]
          by_cases hc : c = 48
          · have : r = [] := by
              cases r with
              | nil => rfl
              | cons _ _ => exact absurd ⟨hc, by simp⟩ hz
            subst this hc
            rfl
          · simp [hc]
        have hguard : s.size = 1 ∨ (1 < s.size ∧ c ≠ 48) := by
          rw [← hsz, hl]
          cases r with
          | nil => left; rfl
          | cons d r => right; exact ⟨by simp, fun hc => hz ⟨hc, by simp⟩⟩
        have hdv0 : isDig c = true := by rw [hl] at hdig; simp only [List.all_cons, Bool.and_eq_true] at hdig; exact hdig.1
        have HX : Hid (dval s.data.toList ≤ m → x = dval s.data.toList ∧ y = 0) := Lib.hid (fun h => by
          have hq : ¬ m < dval s.data.toList := by omega
          rw [hx, hy]
          simp [decN, decE, hmay, hq])
        have HY : Hid (m < dval s.data.toList → x = 0 ∧ y = 5) := Lib.hid (fun h => by
          rw [hx, hy]
          simp [decN, decE, hmay, h])
        have HD := Lib.hid hdig
        clear hx hy hdig hl hsz hz hmay
        rcases hguard with hg | ⟨hg, hc48⟩
        · have h1 : decide (1 < (s.size : Int)) = false := by rw [decide_eq_false_iff_not]; omega
          clear hg hdv0
          go_enter Try.func38, Try.ntmps38
          go_wp2_with fail
          refine HC.out.mono ?_
          rintro e w1 ⟨v, rfl, hv⟩
          have hf := hv.2
          obtain ⟨A, c', rfl, _, _, _, hr⟩ := own_rd hv.1
          rw [hmap] at hr
          rw [hmap]
          obtain ⟨ad, rfl, hcell⟩ := hr.2 hpos
          have HR := Lib.hid hcell
          clear hv hmap hr hcell
          go_wp2_with fail
          go_loop [8, 37] (fun p i => ∃ k : Nat, k ≤ s.size ∧ i = .int .i64 k ∧ p = .int .u64 (dval (s.data.toList.take k) : Nat) ∧ Hid (dval (s.data.toList.take k) ≤ m)) (fun _ i => s.size - (intOf i).toNat)
          case atStart => exact ⟨0, by omega, rfl, rfl, Nat.zero_le _⟩
          case round =>
            obtain ⟨k, hk, rfl, rfl, hpm⟩ := hrel
            by_cases hlt : k < s.size
            · have hts := take_snoc s k hlt
              have hnext := dval_snoc (s.data.toList.take k) s[k]
              rw [← hts] at hnext
              have hdg : isDig s[k] = true := List.all_eq_true.1 HD.out _ (List.mem_of_getElem? (get_lst s k hlt))
              have hdg' : 48 ≤ s[k].toNat ∧ s[k].toNat ≤ 57 := of_decide_eq_true hdg
              have hck := HR.out k (dv s[k]) (by rw [List.getElem?_map, get_lst s k hlt]; rfl)
              rw [dv_dig hdg] at hck
              have hle := dval_take_le s.data.toList (k + 1)
              have HN : Hid (∃ d : Nat, d = s[k].toNat - 48 ∧ d ≤ 9 ∧ dval (s.data.toList.take (k + 1)) = dval (s.data.toList.take k) * 10 + d ∧ dval (s.data.toList.take (k + 1)) ≤ dval s.data.toList) := Lib.hid ⟨_, rfl, by omega, hnext, hle⟩
              obtain ⟨d, hd, hd9, hn1, hn2⟩ := HN.out
              rw [← hd] at hck
              have HN1 := Lib.hid hn1
              have HN2 := Lib.hid hn2
              clear hts hnext hdg hdg' hle hd hn1 hn2 HN
              generalize hpk : dval (s.data.toList.take k) = p at *
              clear hpk
              by_cases q1 : m < d
              · obtain ⟨rfl, rfl⟩ := HY.out (by have := HN1.out; have := HN2.out; omega)
                have e1 : decide (m < d) = true := by rw [decide_eq_true_eq]; exact q1
                go_wp2_with fail
                go_ret2
                exact ⟨rfl, hf⟩
              · have e1 : decide (m < d) = false := by rw [decide_eq_false_iff_not]; exact q1
                have hw : IntKind.u64.wrap ((m : Int) - (d : Int)) = ((m - d : Nat) : Int) := by rw [wrapU]; have := HM.out; omega
                have hw5 : IntKind.u64.wrap (((m - d : Nat) : Int) / 10) = (((m - d) / 10 : Nat) : Int) := by rw [wrapU]; have := HM.out; omega
                by_cases q2 : (m - d) / 10 < p
                · obtain ⟨rfl, rfl⟩ := HY.out (by have := HN1.out; have := HN2.out; omega)
                  have e2 : decide ((m - d) / 10 < p) = true := by rw [decide_eq_true_eq]; omega
                  go_wp2_with fail
                  go_ret2
                  exact ⟨rfl, hf⟩
                · have e2 : decide ((m - d) / 10 < p) = false := by rw [decide_eq_false_iff_not]; omega
                  have hw2 : IntKind.u64.wrap ((p : Int) * 10) = ((p * 10 : Nat) : Int) := by rw [wrapU]; have := HM.out; omega
                  have hw3 : IntKind.u64.wrap ((p : Int) * 10 + (d : Int)) = ((p * 10 + d : Nat) : Int) := by rw [wrapU]; have := HM.out; omega
                  have hw4 : IntKind.u64.wrap (((p * 10 : Nat) : Int) + (d : Int)) = ((p * 10 + d : Nat) : Int) := by rw [wrapU]; have := HM.out; omega
                  go_wp2_with fail
                  refine ⟨⟨k + 1, by omega, by go_num, congrArg (Value.int .u64) ?_, Lib.hid ?_⟩, by simp [intOf]; omega⟩
                  · rw [HN1.out]
                    omega
                  · rw [HN1.out]
                    omega
            · have hta := take_all s k hlt
              rw [hta] at hpm
              obtain ⟨hx, rfl⟩ := HX.out hpm.out
              rw [hta, ← hx]
              clear hta hx
              go_wp2_with fail
              go_ret2
              exact ⟨rfl, hf⟩
        · have h1 : decide (1 < (s.size : Int)) = true := by rw [decide_eq_true_eq]; omega
          clear hg
          go_enter Try.func38, Try.ntmps38
          go_wp2_with fail
          refine HC.out.mono ?_
          rintro e w1 ⟨v, rfl, hv⟩
          have hf := hv.2
          obtain ⟨A, c', rfl, _, _, _, hr⟩ := own_rd hv.1
          rw [hmap] at hr
          rw [hmap]
          obtain ⟨ad, rfl, hcell⟩ := hr.2 hpos
          have HR := Lib.hid hcell
          have hc0 := hcell 0 (dv c) (by rw [Hl.out]; rfl)
          rw [show ad.add 0 = ad from rfl, dv_dig hdv0] at hc0
          have hx0 : (((c.toNat - 48 : Nat) : Int) == 0) = false := by
            rw [beq_eq_false_iff_ne]
            have hcc : 48 ≤ c.toNat ∧ c.toNat ≤ 57 := of_decide_eq_true hdv0
            have : c.toNat ≠ 48 := fun e => hc48 (UInt8.toNat_inj.1 (by show c.toNat = 48; exact e))
            omega
          clear hdv0 hc48
          clear hv hmap hr hcell
          go_wp2_with fail
          go_loop [8, 37] (fun p i => ∃ k : Nat, k ≤ s.size ∧ i = .int .i64 k ∧ p = .int .u64 (dval (s.data.toList.take k) : Nat) ∧ Hid (dval (s.data.toList.take k) ≤ m)) (fun _ i => s.size - (intOf i).toNat)
          case atStart => exact ⟨0, by omega, rfl, rfl, Nat.zero_le _⟩
          case round =>
            obtain ⟨k, hk, rfl, rfl, hpm⟩ := hrel
            by_cases hlt : k < s.size
            · have hts := take_snoc s k hlt
              have hnext := dval_snoc (s.data.toList.take k) s[k]
              rw [← hts] at hnext
              have hdg : isDig s[k] = true := List.all_eq_true.1 HD.out _ (List.mem_of_getElem? (get_lst s k hlt))
              have hdg' : 48 ≤ s[k].toNat ∧ s[k].toNat ≤ 57 := of_decide_eq_true hdg
              have hck := HR.out k (dv s[k]) (by rw [List.getElem?_map, get_lst s k hlt]; rfl)
              rw [dv_dig hdg] at hck
              have hle := dval_take_le s.data.toList (k + 1)
              have HN : Hid (∃ d : Nat, d = s[k].toNat - 48 ∧ d ≤ 9 ∧ dval (s.data.toList.take (k + 1)) = dval (s.data.toList.take k) * 10 + d ∧ dval (s.data.toList.take (k + 1)) ≤ dval s.data.toList) := Lib.hid ⟨_, rfl, by omega, hnext, hle⟩
              obtain ⟨d, hd, hd9, hn1, hn2⟩ := HN.out
              rw [← hd] at hck
              have HN1 := Lib.hid hn1
              have HN2 := Lib.hid hn2
              clear hts hnext hdg hdg' hle hd hn1 hn2 HN
              generalize hpk : dval (s.data.toList.take k) = p at *
              clear hpk
              by_cases q1 : m < d
              · obtain ⟨rfl, rfl⟩ := HY.out (by have := HN1.out; have := HN2.out; omega)
                have e1 : decide (m < d) = true := by rw [decide_eq_true_eq]; exact q1
                go_wp2_with fail
                go_ret2
                exact ⟨rfl, hf⟩
              · have e1 : decide (m < d) = false := by rw [decide_eq_false_iff_not]; exact q1
                have hw : IntKind.u64.wrap ((m : Int) - (d : Int)) = ((m - d : Nat) : Int) := by rw [wrapU]; have := HM.out; omega
                have hw5 : IntKind.u64.wrap (((m - d : Nat) : Int) / 10) = (((m - d) / 10 : Nat) : Int) := by rw [wrapU]; have := HM.out; omega
                by_cases q2 : (m - d) / 10 < p
                · obtain ⟨rfl, rfl⟩ := HY.out (by have := HN1.out; have := HN2.out; omega)
                  have e2 : decide ((m - d) / 10 < p) = true := by rw [decide_eq_true_eq]; omega
                  go_wp2_with fail
                  go_ret2
                  exact ⟨rfl, hf⟩
                · have e2 : decide ((m - d) / 10 < p) = false := by rw [decide_eq_false_iff_not]; omega
                  have hw2 : IntKind.u64.wrap ((p : Int) * 10) = ((p * 10 : Nat) : Int) := by rw [wrapU]; have := HM.out; omega
                  have hw3 : IntKind.u64.wrap ((p : Int) * 10 + (d : Int)) = ((p * 10 + d : Nat) : Int) := by rw [wrapU]; have := HM.out; omega
                  have hw4 : IntKind.u64.wrap (((p * 10 : Nat) : Int) + (d : Int)) = ((p * 10 + d : Nat) : Int) := by rw [wrapU]; have := HM.out; omega
                  go_wp2_with fail
                  refine ⟨⟨k + 1, by omega, by go_num, congrArg (Value.int .u64) ?_, Lib.hid ?_⟩, by simp [intOf]; omega⟩
                  · rw [HN1.out]
                    omega
                  · rw [HN1.out]
                    omega
            · have hta := take_all s k hlt
              rw [hta] at hpm
              obtain ⟨hx, rfl⟩ := HX.out hpm.out
              rw [hta, ← hx]
              clear hta hx
              go_wp2_with fail
              go_ret2
              exact ⟨rfl, hf⟩
  · have hno := wl10_no hall
    obtain rfl : x = 0 := by rw [hx]; simp [decN, hno]
    obtain rfl : y = 4 := by rw [hy]; simp [decE, hno]
    have hne : (((wl 10 s.data.toList).length : Int) == (s.data.toList.length : Int)) = false := by rw [beq_eq_false_iff_ne]; omega
    unfold Worths at HC
    rw [hne] at HC
    clear hx hy hno hne hall
    go_enter Try.func38, Try.ntmps38
    go_wp2_with fail
    refine HC.out.mono ?_
    rintro e w1 ⟨v, rfl, hv⟩
    have hf := hv.2
    clear hv
    go_wp2_with fail
    go_ret2
    exact ⟨rfl, hf⟩
end Go.Proofs.Ythmjfbefekicdaa
