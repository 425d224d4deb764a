/- couponref12.on, walked. -/
import Derived.Test.YthffnepfnadakaaSon
namespace Go.Proofs.Ythffnepfnadakaa
open Go.RowKit

theorem upN_get {l : List Nat} {i x : Nat} (h : l[i]? = some x) : (upN l)[i]? = some (x : Int) := by simp [upN, h]
theorem upN_len (l : List Nat) : (upN l).length = l.length := by simp [upN]
theorem any_take {l : List Nat} {k x s : Nat} (h : l[k]? = some x) : (l.take (k + 1)).contains s = ((l.take k).contains s || x == s) := by
  rw [List.take_add_one, h, List.contains_eq_any_beq, List.contains_eq_any_beq, List.any_append]
  have e : (x == s) = (s == x) := by rw [Bool.eq_iff_iff, beq_iff_eq, beq_iff_eq]; exact eq_comm
  simp [e]
set_option maxRecDepth 100000 in
set_option maxHeartbeats 8000000 in
theorem ron_any {w : World} {base : Nat} {v : Value} {L : List (List Nat)} (h : LstS w base v L) (hN : Nines L) (hl : L.length ≤ 50000000) : Calls Try.prog 31 #[v] w fun e w' => ∃ v', e = .returned v' ∧ LstS w' w.heap.size v' (onL L) ∧ Fr (fun _ => False) w w' := by
  obtain ⟨A0, c0, rfl, hml⟩ := h.form
  obtain ⟨n, hn⟩ : ∃ n, n = L.length := ⟨_, rfl⟩
  have HIN := Lib.hid (And.intro h (And.intro hN hn))
  rw [← hn]
  have hn9 : n ≤ 50000000 := by omega
  clear h hN hl hml hn
  go_enter Try.func31, Try.ntmps31
  go_wp2_with fail
  go_loopw [3, 4] (fun o x wr => ∃ (ov : Value) (i : Nat), ov = o ∧ x = .int .i64 i ∧ i ≤ n ∧ Hid (LstS wr w.heap.size ov (onL (L.take i))) ∧ Hid (Fr (fun _ => False) w wr)) (fun _ x _ => n - (intOf x).toNat)
  case atStart => exact ⟨_, 0, rfl, rfl, Nat.zero_le _, Lib.hid (LstS.nil _ _), Lib.hid (Fr.refl _ _)⟩
  case round =>
    obtain ⟨o, i, ho, rfl, hi, HO, HF⟩ := hrel
    subst ho
    by_cases hlt : i < n
    · obtain ⟨r, hr⟩ : ∃ r, L[i]? = some r := ⟨_, List.getElem?_eq_getElem (by have := HIN.out.2.2; omega)⟩
      obtain ⟨g, cap, u, e1, hd0, hu⟩ := HIN.out.1.at_ hr
      have hd1 := (HF.out.cell (p := ⟨g, i, none⟩) (World.block_lt_of_cell? w _ hd0) (fun q => q)).trans hd0
      obtain ⟨rfl, rfl⟩ : A0 = some ⟨g, 0, none⟩ ∧ c0 = cap := by injection e1 with a b c; exact ⟨a, c⟩
      obtain ⟨hr1, hr2, hr3⟩ := HIN.out.2.1 r (List.mem_of_getElem? hr)
      have HU := Lib.hid hu
      obtain ⟨Au, cu, rfl, hmu, _⟩ := hu
      obtain ⟨m, hm⟩ : ∃ m, m = r.length := ⟨_, rfl⟩
      rw [upN_len, ← hm] at hd1 HU
      clear hd0
      have hi0 : (0 : Int) ≤ (i : Int) := by omega
      have hin : (i : Int) < (n : Int) := by omega
      have HR := Lib.hid (And.intro hr (And.intro hr1 (And.intro hr2 (And.intro hr3 (And.intro hm hlt)))))
      have hm9 : m ≤ 100 := by omega
      have hm1 : 1 ≤ m := by omega
      clear hr hr1 hr2 hr3 hmu e1 hm hlt
      go_wp2_with fail
      clear hd1
      have HB0 : Hid (LstS wr w.heap.size o (onL (L.take i) ++ oneTo r 0)) := Lib.hid (by rw [oneTo_zero, List.append_nil]; exact HO.out)
      have HF0 := HF
      clear HF HO
      go_loopw [3, 6] (fun o x wq => ∃ (ov : Value) (s : Nat), ov = o ∧ x = .int .i64 s ∧ 1 ≤ s ∧ s ≤ 10 ∧ Hid (LstS wq w.heap.size ov (onL (L.take i) ++ oneTo r (s - 1))) ∧ Hid (Fr (fun _ => False) w wq)) (fun _ x _ => 10 - (intOf x).toNat)
      case atStart => exact ⟨_, 1, rfl, rfl, by omega, by omega, HB0, HF0⟩
      case round =>
        clear HB0 HF0
        obtain ⟨o, s, ho, rfl, hs1, hs2, HO, HF⟩ := hrel
        subst ho
        obtain ⟨W, hW⟩ : ∃ W, W = wr := ⟨_, rfl⟩
        subst hW
        by_cases hs : s ≤ 9
        · have hsi : (s : Int) ≤ 9 := by omega
          have hs0 : (1 : Int) ≤ (s : Int) := by omega
          clear hs2
          go_wp2_with fail
          go_loopw [7, 8] (fun b x wq => wq = W ∧ ∃ (hb : Bool) (k : Nat), b = .bool hb ∧ x = .int .i64 k ∧ k ≤ m ∧ Hid (hb = (r.take k).contains s)) (fun _ x _ => m - (intOf x).toNat)
          case atStart => exact ⟨rfl, false, 0, rfl, rfl, Nat.zero_le _, Lib.hid rfl⟩
          case round =>
            obtain ⟨hwq, hb, k, rfl, rfl, hk, HK⟩ := hrel
            subst hwq
            by_cases hkm : k < m
            · obtain ⟨x1, hx1⟩ : ∃ x, r[k]? = some x := ⟨_, List.getElem?_eq_getElem (by have := HR.out.2.2.2.2.1; omega)⟩
              obtain ⟨A', c', e2, _, hA2⟩ := HU.out.new0 HF.out
              injection e2 with e2 e3 e4
              subst e2 e4
              obtain ⟨b1, o1, rfl, hcA⟩ := hA2 (by rw [upN_len]; have := HR.out.2.2.2.2.1; omega)
              have hd1 := hcA k _ (upN_get hx1)
              have hkk : (k : Int) < (m : Int) := by omega
              have hk0 : (0 : Int) ≤ (k : Int) := by omega
              have HK2 := any_take (s := s) hx1
              have HLT := Lib.hid hkm
              have hnx : ∀ q : Bool, (x1 == s) = q → ((x1 : Int) == (s : Int)) = q := fun q hq => by
                rw [← hq, Bool.eq_iff_iff, beq_iff_eq, beq_iff_eq]
                omega
              cases hb with
              | true =>
                have HN : Hid (true = (r.take (k + 1)).contains s) := Lib.hid (by rw [HK2, ← HK.out, Bool.true_or])
                clear hx1 hcA hA2 e3 hkm HK2 HK hnx hd1
                go_wp2_with fail
                refine ⟨⟨trivial, true, k + 1, rfl, by go_num, by have := HLT.out; omega, HN⟩, ?_⟩
                simp [intOf]
                have := HLT.out
                omega
              | false =>
                cases hq : (x1 == s) with
                | true =>
                  have hqi := hnx _ hq
                  have HN : Hid (true = (r.take (k + 1)).contains s) := Lib.hid (by rw [HK2, ← HK.out, hq, Bool.false_or])
                  clear hx1 hcA hA2 e3 hkm HK2 HK hnx hq
                  go_wp2_with fail
                  refine ⟨⟨trivial, true, k + 1, rfl, by go_num, by have := HLT.out; omega, HN⟩, ?_⟩
                  simp [intOf]
                  have := HLT.out
                  omega
                | false =>
                  have hqi := hnx _ hq
                  have HN : Hid (false = (r.take (k + 1)).contains s) := Lib.hid (by rw [HK2, ← HK.out, hq, Bool.false_or])
                  clear hx1 hcA hA2 e3 hkm HK2 HK hnx hq
                  go_wp2_with fail
                  refine ⟨⟨trivial, false, k + 1, rfl, by go_num, by have := HLT.out; omega, HN⟩, ?_⟩
                  simp [intOf]
                  have := HLT.out
                  omega
            · obtain rfl : k = m := by omega
              have hall : hb = r.contains s := by rw [HK.out, List.take_of_length_le (by have := HR.out.2.2.2.2.1; omega)]
              obtain ⟨s', hs'⟩ : ∃ s', s = s' + 1 := ⟨s - 1, by omega⟩
              have hst := oneTo_step r s'
              rw [← hs'] at hst
              have hs1' : s - 1 = s' := by omega
              have hO := HO.out
              rw [hs1'] at hO
              have HS := Lib.hid (And.intro hs' (And.intro hst hs))
              have hkk : ¬ (k : Int) < (k : Int) := by omega
              cases hb with
              | true =>
                have HO2 : Hid (LstS wr w.heap.size o (onL (L.take i) ++ oneTo r (s + 1 - 1))) := Lib.hid (by
                  rw [Nat.add_sub_cancel, hst, ← hall]
                  simpa using hO)
                clear hall HK hkm hst hs1' hO hs hs'
                go_wp2_with fail
                refine ⟨⟨o, s + 1, rfl, by go_num, by omega, by have := HS.out.2.2; omega, HO2, HF⟩, ?_⟩
                simp [intOf]
                have := HS.out.2.2
                omega
              | false =>
                obtain ⟨p, hp⟩ : ∃ p, p = k - 1 := ⟨_, rfl⟩
                obtain ⟨x1, hx1⟩ : ∃ x, r[p]? = some x := ⟨_, List.getElem?_eq_getElem (by have := HR.out.2.2.2.2.1; omega)⟩
                have hlast : r.getLastD 0 = x1 := by
                  rw [List.getLastD_eq_getLast?, List.getLast?_eq_getElem?, show r.length - 1 = p by have := HR.out.2.2.2.2.1; omega, hx1]
                  rfl
                have hxb := HR.out.2.2.2.1 x1 (List.mem_of_getElem? hx1)
                have hU := HU.out.new0 HF.out
                obtain ⟨A', c', e2, _, hA2⟩ := hU
                injection e2 with e2 e3 e4
                subst e2 e4
                obtain ⟨b1, o1, rfl, hcA⟩ := hA2 (by rw [upN_len]; have := HR.out.2.2.2.2.1; omega)
                have hd1 := hcA p _ (upN_get hx1)
                have hpi : (k : Int) - 1 = (p : Int) := by omega
                have hp0 : (0 : Int) ≤ (p : Int) := by omega
                have hpk : (p : Int) < (k : Int) := by omega
                have hk1 : (1 : Int) ≤ (k : Int) := by omega
                have hk9 : (k : Int) ≤ 100 := by omega
                have hle : leadsS (x1 : Int) (s : Int) = leadsN x1 s := by
                  unfold leadsS
                  rw [show mayS (x1 : Int) = true from decide_eq_true (by omega), show mayS (s : Int) = true from decide_eq_true (by omega), Int.toNat_natCast, Int.toNat_natCast]
                  rfl
                have HL := Lib.hid (rleads_any (x1 : Int) (s : Int))
                rw [hle] at HL
                have hst2 : oneTo r s = oneTo r s' ++ (if leadsN x1 s then [r ++ [s]] else []) := by
                  rw [hst, ← hall, hlast]
                  rfl
                cases hq : leadsN x1 s with
                | false =>
                  rw [hq] at HL hst2
                  have HO2 : Hid (LstS wr w.heap.size o (onL (L.take i) ++ oneTo r (s + 1 - 1))) := Lib.hid (by
                    rw [Nat.add_sub_cancel, hst2]
                    simpa using hO)
                  clear hall HK hkm hst hs1' hO hs hs' hp hx1 hlast hxb hA2 hcA e3 hle hst2 hq
                  go_wp2_with fail
                  refine (HL.out _).mono ?_
                  rintro e w5 ⟨rfl, f5⟩
                  have HE := Lib.hid (And.intro (HO2.out.new f5) (HF.out.trans f5 (fun _ _ q => q)))
                  clear f5 hd1
                  go_wp2_with fail
                  refine ⟨⟨o, s + 1, rfl, by go_num, by omega, by have := HS.out.2.2; omega, Lib.hid HE.out.1, Lib.hid HE.out.2⟩, ?_⟩
                  simp [intOf]
                  have := HS.out.2.2
                  omega
                | true =>
                  rw [hq] at HL hst2
                  have HS2 : Hid (onL (L.take i) ++ oneTo r (s + 1 - 1) = (onL (L.take i) ++ oneTo r s') ++ [r ++ [s]]) := Lib.hid (by
                    rw [Nat.add_sub_cancel, hst2, ← List.append_assoc]
                    rfl)
                  have HO2 := Lib.hid hO
                  have HB9 : Hid ((onL (L.take i) ++ oneTo r s').length < 1000000000) := Lib.hid (by
                    have q1 := onL_len (L.take i)
                    have q2 := oneTo_len r s'
                    rw [List.length_take] at q1
                    rw [List.length_append]
                    have := HIN.out.2.2
                    omega)
                  clear hall HK hkm hst hs1' hO hs hs' hp hx1 hlast hxb hA2 hcA e3 hle hst2 hq HO
                  go_wp2_with fail
                  refine (HL.out _).mono ?_
                  rintro e w5 ⟨rfl, f5⟩
                  have HE := Lib.hid (And.intro (HO2.out.new f5) (HF.out.trans f5 (fun _ _ q => q)))
                  clear f5 hd1 HO2
                  go_wp2_with (first
                    | (at_builtin; obtain ⟨v1, w6, hr6, ho6, f6⟩ := append_nil_sts (HU.out.new0 HE.out.2) (by rw [upN_len]; exact HR.out.2.1) (by rw [upN_len]; have := HR.out.2.2.1; omega) 25; refine wpList_bi (t := 25) rfl (.const (.slice none 0 0)) (.tmp 51) rfl rfl rfl hr6 ?_; have hbe : w5.heap.size ≤ w6.heap.size := f6.size; have ho7 := ho6.keep0 ((Fr.refl (fun _ => False) w6).alloc (.cells #[.int .i64 (s : Int)] 22)); have hz7 := (Blk.new w6 22 #[.int .i64 (s : Int)]).cell 0; have HA1 := Lib.hid (And.intro ho7 (And.intro hz7 (And.intro f6 hbe))); clear hr6 ho6 f6 hbe ho7 hz7)
                    | (at_builtin; obtain ⟨v2, w7, hr7, ho7, hg7⟩ := append_one_st HA1.out.1 HA1.out.2.1 (by rw [upN_len]; have := HR.out.2.2.1; omega) (by have := HA1.out.2.2.2; have := ((Fr.refl (fun _ => False) w6).alloc (.cells #[.int .i64 (s : Int)] 22)).size; omega) 25; refine wpList_bi (t := 25) rfl (.tmp 52) (.tmp 54) rfl rfl rfl hr7 ?_; have hlow := fun k hk => HA1.out.1.low (k := k) hk; have f7 := ((HA1.out.2.2.1.alloc (.cells #[.int .i64 (s : Int)] 22)).grown hg7 (fun k hk => .inr (hlow k hk))); obtain ⟨A2, n2, c2, hv2⟩ := own_form ho7; subst hv2; have HA2 := Lib.hid (And.intro ho7 f7); clear hr7 ho7 hg7 hlow f7)
                    | (at_builtin; obtain ⟨v3, w8, hr8, ho8, hg8, hat8⟩ := third_append HA2.out.1 HA2.out.2 HE.out.1 (s := s) HE.out.2.size HB9.out; refine wpList_bi (t := 52) rfl (.tmp 50) (.tmp 56) rfl rfl rfl hr8 ?_; have HA3 := Lib.hid (And.intro ho8 (And.intro hg8 hat8)); clear hr8 ho8 hg8 hat8))
                  have HW : Hid (Fr (fun _ => False) w w8) := Lib.hid (HE.out.2.trans HA3.out.2.1 (fun k hk q => by have := HE.out.1.low q; omega))
                  refine ⟨⟨v3, s + 1, rfl, by go_num, by omega, by have := HS.out.2.2; omega, Lib.hid (by rw [HS2.out]; exact HA3.out.1), HW⟩, ?_⟩
                  simp [intOf]
                  have := HS.out.2.2
                  omega
        · obtain rfl : s = 10 := by omega
          have hO := HO.out
          rw [show 10 - 1 = 9 from rfl, oneTo_nine, ← onL_take HR.out.1] at hO
          have HO2 := Lib.hid hO
          have HLT := Lib.hid HR.out.2.2.2.2.2
          clear hs hO HO hs1 hs2
          go_wp2_with fail
          refine ⟨⟨o, i + 1, rfl, by go_num, by have := HLT.out; omega, HO2, HF⟩, ?_⟩
          simp [intOf]
          have := HLT.out
          omega
    · obtain rfl : i = n := by omega
      have hO := HO.out
      rw [List.take_of_length_le (by rw [← HIN.out.2.2]; exact Nat.le_refl _)] at hO
      have HO2 := Lib.hid hO
      have hin : ¬ (i : Int) < (i : Int) := by omega
      clear hlt hO HO
      go_wp2_with fail
      go_ret
      exact ⟨_, rfl, HO2.out, HF.out⟩
end Go.Proofs.Ythffnepfnadakaa
