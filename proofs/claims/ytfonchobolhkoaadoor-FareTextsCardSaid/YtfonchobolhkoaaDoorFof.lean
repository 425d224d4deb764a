/- couponref11.Of. -/
import Derived.Test.YtfonchobolhkoaaDoorFfo
namespace Go.Proofs.YtfonchobolhkoaaDoor
open Go.RowKit

def noDot (l : List UInt8) : List UInt8 := l.filter (fun c => c.toNat != 46)
theorem noDot_snoc (l : List UInt8) (c : UInt8) : noDot (l ++ [c]) = noDot l ++ if c.toNat = 46 then [] else [c] := by
  unfold noDot
  rw [List.filter_append]
  by_cases h : c.toNat = 46
  · simp [h]
  · simp [h]
theorem noDot_digs {l : List UInt8} (h : l.all isDig = true) : noDot l = l := by
  unfold noDot
  rw [List.filter_eq_self]
  intro c hc
  have := List.all_eq_true.1 h c hc
  have h2 : 48 ≤ c.toNat ∧ c.toNat ≤ 57 := of_decide_eq_true this
  rw [bne_iff_ne]
  omega
theorem noDot_body {t : List UInt8} (h : bodyOk t = true) : noDot t = digsOf t := by
  unfold bodyOk at h
  simp only [Bool.and_eq_true, decide_eq_true_eq] at h
  obtain ⟨⟨⟨h1, h2⟩, _⟩, h4⟩ := h
  unfold digsOf at h4 ⊢
  rw [List.all_append, Bool.and_eq_true] at h4
  have ht : t = t.take (t.length - 3) ++ ([46] ++ t.drop (t.length - 2)) := by
    have e1 : t.drop (t.length - 3) = 46 :: t.drop (t.length - 3 + 1) := by
      obtain ⟨hi, e⟩ := List.getElem?_eq_some_iff.1 h2
      rw [List.drop_eq_getElem_cons hi, e]
    have e2 := List.take_append_drop (t.length - 3) t
    rw [e1, show t.length - 3 + 1 = t.length - 2 by omega] at e2
    exact e2.symm
  have e3 : noDot t = noDot (t.take (t.length - 3)) ++ noDot (t.drop (t.length - 2)) := by
    conv => lhs; rw [ht]
    unfold noDot
    rw [List.filter_append, List.filter_append]
    rfl
  rw [e3, noDot_digs h4.1, noDot_digs h4.2]
theorem dval_mono (l : List UInt8) (c : UInt8) : dval l ≤ dval (l ++ [c]) := by rw [dval_snoc]; omega
/-- What has been read of k bytes: the number, or more than is to be had. -/
def ReadTo (t : List UInt8) (k m : Nat) : Prop := m ≤ 10000000000009 ∧ (m = dval (noDot (t.take k)) ∨ (1000000000000 < m ∧ 1000000000000 < dval (noDot (t.take k))))
theorem ReadTo.skip {t : List UInt8} {k m : Nat} {c : UInt8} (h : ReadTo t k m) (hc : t[k]? = some c) (h46 : c.toNat = 46) : ReadTo t (k + 1) m := by
  unfold ReadTo at h ⊢
  have e : t.take (k + 1) = t.take k ++ [c] := by rw [List.take_add_one, hc]; rfl
  rw [e, noDot_snoc, if_pos h46, List.append_nil]
  exact h
theorem ReadTo.more {t : List UInt8} {k m : Nat} {c : UInt8} (h : ReadTo t k m) (hc : t[k]? = some c) (h46 : c.toNat ≠ 46) (hd : 48 ≤ c.toNat ∧ c.toNat ≤ 57) (hm : m ≤ 1000000000000) : ReadTo t (k + 1) (10 * m + (c.toNat - 48)) := by
  unfold ReadTo at h ⊢
  have e : t.take (k + 1) = t.take k ++ [c] := by rw [List.take_add_one, hc]; rfl
  rw [e, noDot_snoc, if_neg h46, dval_snoc]
  omega
theorem ReadTo.full {t : List UInt8} {k m : Nat} {c : UInt8} (h : ReadTo t k m) (hc : t[k]? = some c) (hm : 1000000000000 < m) : ReadTo t (k + 1) m := by
  unfold ReadTo at h ⊢
  have e : t.take (k + 1) = t.take k ++ [c] := by rw [List.take_add_one, hc]; rfl
  rw [e, noDot_snoc]
  by_cases h46 : c.toNat = 46
  · rw [if_pos h46, List.append_nil]
    exact h
  · rw [if_neg h46, dval_snoc]
    omega
set_option maxRecDepth 100000 in
set_option maxHeartbeats 2000000 in
theorem rofa_any (s : ByteArray) (hs : s.size ≤ 1000) (w : World) : Calls Tryd.prog 25 #[.string s] w fun e w' => e = .returned (.tuple #[.int .i64 (ofFN s.data.toList), .int .i64 (ofFE s.data.toList : Nat)]) ∧ w = w' := by
  have HFO := Lib.hid (rform_any s hs w)
  obtain ⟨T, hT, hTs, hT1, hT2⟩ := body_str s
  obtain ⟨hd, hhd⟩ : ∃ hd : Bool, hd = decide (s.data.toList.head? = some 45) := ⟨_, rfl⟩
  obtain ⟨b, hb⟩ : ∃ b, b = formB s.data.toList := ⟨_, rfl⟩
  obtain ⟨x, hx⟩ : ∃ x, x = ofFN s.data.toList := ⟨_, rfl⟩
  obtain ⟨y, hy⟩ : ∃ y, y = ofFE s.data.toList := ⟨_, rfl⟩
  rw [← hx, ← hy]
  rw [← hb] at HFO
  cases b with
  | false =>
    obtain rfl : y = 4 := by rw [hy]; unfold ofFE; rw [← hb]; rfl
    obtain rfl : x = 0 := by rw [hx]; unfold ofFN; rw [← hy]; rfl
    clear hT hT1 hT2 hhd hb hx hy hTs
    go_enter Tryd.func25, Tryd.ntmps25
    go_wp2_with fail
    refine HFO.out.mono ?_
    rintro e w1 ⟨rfl, rfl⟩
    go_wp2_with fail
    go_ret2
    exact ⟨rfl, rfl⟩
  | true =>
    have hTz : T.size ≤ 1000 := by omega
    have hbo : bodyOk T.data.toList = true := by
      unfold formB at hb
      rw [← hT] at hb
      cases hh : bodyOk T.data.toList with
      | true => rfl
      | false => rw [hh] at hb; simp at hb
    have hlen : T.data.toList.length = T.size := (size_list T).symm
    have h4 : 4 ≤ T.size := by
      unfold bodyOk at hbo
      simp only [Bool.and_eq_true, decide_eq_true_eq] at hbo
      omega
    have h0 : 0 < s.size := by omega
    have hye : y = if 1000000000000 < dval (noDot T.data.toList) then 14 else 0 := by
      rw [hy, noDot_body hbo]
      unfold ofFE
      rw [← hb, ← hT]
      rfl
    have hxe : x = if 1000000000000 < dval (noDot T.data.toList) then 0 else if hd then -(dval (noDot T.data.toList) : Int) else (dval (noDot T.data.toList) : Int) := by
      rw [hx, noDot_body hbo]
      unfold ofFN
      rw [← hy, hye, noDot_body hbo]
      by_cases q : 1000000000000 < dval (digsOf T.data.toList)
      · rw [if_pos q, if_pos q]; rfl
      · rw [if_neg q, if_neg q, if_pos rfl, ← hT]
        by_cases q2 : s.data.toList.head? = some 45
        · rw [if_pos q2, hhd, decide_eq_true q2]; rfl
        · rw [if_neg q2, hhd, decide_eq_false q2]; rfl
    have hdig : ∀ (k : Nat) (c : UInt8), T.data.toList[k]? = some c → c.toNat ≠ 46 → 48 ≤ c.toNat ∧ c.toNat ≤ 57 := by
      intro k c hc hne
      have hd4 : (digsOf T.data.toList).all isDig = true := by
        unfold bodyOk at hbo
        simp only [Bool.and_eq_true] at hbo
        exact hbo.2
      have hk : k ≠ T.data.toList.length - 3 := by
        intro e
        have h46 : T.data.toList[T.data.toList.length - 3]? = some 46 := by
          unfold bodyOk at hbo
          simp only [Bool.and_eq_true, decide_eq_true_eq] at hbo
          exact hbo.1.1.2
        rw [← e, hc] at h46
        injection h46 with h46
        rw [h46] at hne
        exact hne rfl
      have := (digs_all (t := T.data.toList) (by omega)).1 hd4 k c hc hk
      exact of_decide_eq_true this
    have hh : hd = decide (s[0].toNat = 45) := by
      rw [hhd, head_get, get_at s 0 h0]
      by_cases q : s[0] = 45
      · rw [q]; rfl
      · have : s[0].toNat ≠ 45 := fun e => q (UInt8.toNat_inj.1 (by rw [e]; rfl))
        rw [decide_eq_false (by simpa using q), decide_eq_false this]
    have HT := Lib.hid (And.intro hT1 (And.intro hT2 (And.intro hhd (And.intro hh (And.intro hdig (And.intro hye hxe))))))
    have h4i : (4 : Int) ≤ (T.size : Int) := by omega
    clear hT hT1 hT2 hhd hb hx hy hbo hye hxe hdig hh h4 hlen
    go_enter Tryd.func25, Tryd.ntmps25
    go_wp2_with fail
    refine HFO.out.mono ?_
    rintro e w1 ⟨rfl, rfl⟩
    clear HFO
    go_upto_region 4 with fail
    go_cut [13] from 11 to 13 (fun z wx => z = .bool hd ∧ w = wx)
    case first =>
      have hh := HT.out.2.2.2.1
      by_cases q : s[0].toNat = 45
      · obtain rfl : hd = true := by rw [hh]; exact decide_eq_true q
        have hq : ((s[0].toNat : Int) == 45) = true := by rw [beq_iff_eq]; omega
        clear hh q
        go_wp2_with fail
        go_meet
        case rel => exact ⟨rfl, rfl⟩
      · obtain rfl : hd = false := by rw [hh]; exact decide_eq_false q
        have hq : ((s[0].toNat : Int) == 45) = false := by rw [beq_eq_false_iff_ne]; omega
        clear hh q
        go_wp2_with fail
        go_meet
        case rel => exact ⟨rfl, rfl⟩
    obtain ⟨rfl, rfl⟩ := hcut
    go_upto_if 13 with (fail)
    go_cut [4] from 14 to 15 (fun z wx => z = .string T ∧ w = wx)
    case first =>
      have h1i : (1 : Int) ≤ (s.size : Int) := by omega
      cases hd with
      | true =>
        have HTE := Lib.hid (HT.out.1 (of_decide_eq_true HT.out.2.2.1.symm))
        go_wp2_with fail
        go_meet
        case rel => exact ⟨by rw [HTE.out], rfl⟩
      | false =>
        have HTE := Lib.hid (HT.out.2.1 (of_decide_eq_false HT.out.2.2.1.symm))
        go_wp2_with fail
        go_meet
        case rel => exact ⟨by rw [HTE.out], rfl⟩
    obtain ⟨rfl, rfl⟩ := hcut
    go_wp2_with fail
    go_loop [5, 6] (fun n i => ∃ k m : Nat, i = .int .i64 k ∧ n = .int .i64 m ∧ k ≤ T.size ∧ Hid (ReadTo T.data.toList k m)) (fun _ i => T.size - (intOf i).toNat)
    case atStart => exact ⟨0, 0, rfl, rfl, Nat.zero_le _, Lib.hid ⟨by omega, .inl rfl⟩⟩
    case round =>
      obtain ⟨k, m, rfl, rfl, hk, HM⟩ := hrel
      have hm9 : (m : Int) ≤ 10000000000009 := by have := HM.out.1; omega
      by_cases hlt : k < T.size
      · have hki : (k : Int) < (T.size : Int) := by omega
        have hk0 : (0 : Int) ≤ (k : Int) := by omega
        have hget := get_at T k hlt
        have hdg := HT.out.2.2.2.2.1 k _ hget
        by_cases h46 : T[k].toNat = 46
        · have q1 : ((T[k].toNat : Int) != 46) = false := by rw [bne_eq_false_iff_eq]; omega
          have HN := Lib.hid (HM.out.skip hget h46)
          have HLT := Lib.hid hlt
          clear hget hdg h46
          go_wp2_with fail
          exact ⟨⟨k + 1, m, by go_num, rfl, HLT.out, HN⟩, by simp [intOf]; have := HLT.out; omega⟩
        · have q1 : ((T[k].toNat : Int) != 46) = true := by rw [bne_iff_ne]; omega
          by_cases hmm : m ≤ 1000000000000
          · have q2 : (m : Int) ≤ 1000000000000 := by omega
            obtain ⟨d, hdd⟩ : ∃ d : Nat, d = T[k].toNat - 48 := ⟨_, rfl⟩
            have HN : Hid (ReadTo T.data.toList (k + 1) (10 * m + d)) := Lib.hid (by rw [hdd]; exact HM.out.more hget h46 (hdg h46) hmm)
            obtain ⟨hd1, hd2⟩ := hdg h46
            have hw2 : IntKind.u8.wrap ((T[k].toNat : Int) - 48) = (d : Int) := by
              have : IntKind.u8.wrap ((T[k].toNat : Int) - 48) = ((T[k].toNat : Int) - 48) % 256 := by simp [IntKind.wrap, IntKind.signed, IntKind.bits]
              rw [this]; omega
            have HLT := Lib.hid hlt
            have hm0 : (0 : Int) ≤ (m : Int) := by omega
            have hd9 : (d : Int) ≤ 9 := by omega
            clear hget hdg h46 hmm hdd
            go_wp2_with fail
            exact ⟨⟨k + 1, 10 * m + d, by go_num, by norm_cast, HLT.out, HN⟩, by simp [intOf]; have := HLT.out; omega⟩
          · have q2 : ¬ (m : Int) ≤ 1000000000000 := by omega
            have HN := Lib.hid (HM.out.full hget (by omega))
            have HLT := Lib.hid hlt
            clear hget hdg h46 hmm
            go_wp2_with fail
            exact ⟨⟨k + 1, m, by go_num, rfl, HLT.out, HN⟩, by simp [intOf]; have := HLT.out; omega⟩
      · have hye := HT.out.2.2.2.2.2.1
        have hxe := HT.out.2.2.2.2.2.2
        have htk : T.data.toList.take k = T.data.toList := List.take_of_length_le (by rw [← size_list]; omega)
        have hr := HM.out
        unfold ReadTo at hr
        rw [htk] at hr
        have hki : ¬ (k : Int) < (T.size : Int) := by omega
        by_cases hbig : 1000000000000 < m
        · have hbi : (1000000000000 : Int) < (m : Int) := by omega
          have hdv : 1000000000000 < dval (noDot T.data.toList) := by omega
          rw [if_pos hdv] at hye hxe
          subst hye hxe
          clear htk hr hdv hlt hbig
          go_wp2_with fail
          go_ret2
          exact ⟨rfl, rfl⟩
        · have hbi : ¬ (1000000000000 : Int) < (m : Int) := by omega
          have hdv : dval (noDot T.data.toList) = m := by omega
          rw [hdv, if_neg hbig] at hye hxe
          subst hye
          cases hd with
          | true =>
            have hTe := HT.out.1 (of_decide_eq_true HT.out.2.2.1.symm)
            have hne : s.toList ≠ T.toList := by
              intro e
              have h1 := congrArg List.length e
              rw [ByteArray.toList_eq, ByteArray.toList_eq, ← size_list, ← size_list, hTe, ByteArray.size_extract] at h1
              omega
            have hq : (s.toList != T.toList) = true := by rw [bne_iff_ne]; exact hne
            have hx2 : x = -(m : Int) := hxe
            have hwr : wrap64 (-(m : Int)) = -(m : Int) := wrap64_id (by omega) (by omega)
            have HX := Lib.hid hx2
            have hq2 : (s.toList == T.toList) = false := by rw [beq_eq_false_iff_ne]; exact hne
            clear htk hr hdv hlt hbig hxe hTe hx2 hwr
            go_wp2_with fail
            go_ret2
            exact ⟨by rw [HX.out]; rfl, rfl⟩
          | false =>
            have hTe := HT.out.2.1 (of_decide_eq_false HT.out.2.2.1.symm)
            have hx2 : x = (m : Int) := hxe
            subst hTe
            subst hx2
            have hq : (T.toList != T.toList) = false := by simp
            clear htk hr hdv hlt hbig hxe
            go_wp2_with fail
            go_ret2
            exact ⟨rfl, rfl⟩
end Go.Proofs.YtfonchobolhkoaaDoor
