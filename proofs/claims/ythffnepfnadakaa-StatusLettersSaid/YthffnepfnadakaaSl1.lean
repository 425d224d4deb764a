/- The law StatusLeads, of what status' calls answer. -/
import Derived.Test.YthffnepfnadakaaSwy
import Derived.Test.YthffnepfnadakaaSkn
namespace Go.Proofs.Ythffnepfnadakaa
open Go.RowKit

theorem nextS_len (a : Int) : (nextS a).length ≤ 9 := by
  rw [← wantS_nine]
  unfold wantS
  rw [List.length_map]
  exact Nat.le_trans (List.length_filter_le _ _) (by simp)
set_option maxRecDepth 100000 in
set_option maxHeartbeats 4000000 in
theorem sleads (P : StatusP) (a b : Int) (w : World) : Calls Try.prog 3 #[.int .i64 a, .int .i64 b] w (Tru w) := by
  have HK := Lib.hid (fun W => sknown P W)
  have HRL := Lib.hid (fun z => rleads_any a z)
  have HNX := Lib.hid (fun W => P.next a W)
  have HPM := Lib.hid (P.may a)
  have HRM := Lib.hid (rmays_any a)
  have HPL := Lib.hid (P.last a)
  have HRT := Lib.hid (rlast_any a)
  have HPV := Lib.hid (P.live a)
  have HPD := Lib.hid (P.leads a b)
  have HRD := Lib.hid (rleads_any a b)
  rw [live_may] at HPV
  obtain ⟨d, hd⟩ : ∃ d, d = leadsS a b := ⟨_, rfl⟩
  rw [← hd] at HPD HRD
  have hdd : (d != d) = false := by cases d <;> rfl
  clear hd
  cases hm : mayS a with
  | false =>
    have hl : lastS a = false := by unfold lastS; rw [hm]; rfl
    rw [hm] at HPM HRM HPV
    rw [hl] at HPL HRT HPV
    clear hm hl
    go_enter Try.func3, Try.ntmps3
    go_wp2_with fail
    refine (HPM.out _).mono ?_
    rintro e w1 ⟨rfl, f1⟩
    have HF1 := Lib.hid ((Fr.refl (fun _ => False) w).trans f1 (fun _ _ q => q))
    clear f1
    go_wp2_with fail
    refine (HRM.out _).mono ?_
    rintro e w' ⟨rfl, rfl⟩
    go_wp2_with fail
    refine (HPL.out _).mono ?_
    rintro e w2 ⟨rfl, f2⟩
    have HF2 := Lib.hid (HF1.out.trans f2 (fun _ _ q => q))
    clear f2
    go_wp2_with fail
    refine (HRT.out _).mono ?_
    rintro e w3 ⟨rfl, f3⟩
    have HF3 := Lib.hid (HF2.out.trans f3 (fun _ _ q => q))
    clear f3
    go_wp2_with fail
    refine (HPV.out _).mono ?_
    rintro e w4 ⟨rfl, f4⟩
    have HF4 := Lib.hid (HF3.out.trans f4 (fun _ _ q => q))
    clear f4
    go_wp2_with fail
    refine (HRM.out _).mono ?_
    rintro e w' ⟨rfl, rfl⟩
    go_wp2_with fail
    refine (HPD.out _).mono ?_
    rintro e w5 ⟨rfl, f5⟩
    have HF5 := Lib.hid (HF4.out.trans f5 (fun _ _ q => q))
    clear f5
    go_wp2_with fail
    refine (HRD.out _).mono ?_
    rintro e w6 ⟨rfl, f6⟩
    have HF6 := Lib.hid (HF5.out.trans f6 (fun _ _ q => q))
    clear f6
    go_wp2_with fail
    have HB0 : Hid (RowS w6 w.heap.size (.slice none 0 0) (wantS a (1 - 1))) := Lib.hid (RowS.nil _ _)
    have HFK := HF6
    go_loopw [5, 6] (fun o x wq => ∃ (ov : Value) (s : Nat), ov = o ∧ x = .int .i64 s ∧ 1 ≤ s ∧ s ≤ 10 ∧ Hid (RowS wq w.heap.size ov (wantS a (s - 1))) ∧ Hid (Fr (fun _ => False) w wq)) (fun _ x _ => 10 - (intOf x).toNat)
    case atStart => exact ⟨_, 1, rfl, rfl, by omega, by omega, HB0, HFK⟩
    case round =>
      clear HB0 HFK HF6
      obtain ⟨o, s, ho, rfl, hs1, hs2, HO, HF⟩ := hrel
      subst ho
      by_cases hs : s ≤ 9
      · have hsi : (s : Int) ≤ 9 := by omega
        have hs0 : (1 : Int) ≤ (s : Int) := by omega
        obtain ⟨s', hs'⟩ : ∃ s', s = s' + 1 := ⟨s - 1, by omega⟩
        have hst := wantS_step a s'
        rw [← hs'] at hst
        have hO := HO.out
        rw [show s - 1 = s' by omega] at hO
        have HL := Lib.hid (HRL.out (s : Int))
        have HS := Lib.hid hs
        cases hq : leadsS a (s : Int) with
        | false =>
          rw [hq] at hst HL
          have HO2 : Hid (RowS wr w.heap.size o (wantS a (s + 1 - 1))) := Lib.hid (by rw [Nat.add_sub_cancel, hst]; exact hO)
          clear hO hst hs' hs hq HO
          go_wp2_with fail
          refine (HL.out _).mono ?_
          rintro e w5 ⟨rfl, f5⟩
          have HE := Lib.hid (And.intro (HO2.out.keep0 f5) (HF.out.trans f5 (fun _ _ q => q)))
          clear f5 HO2
          go_wp2_with fail
          refine ⟨⟨o, s + 1, rfl, by go_num, by omega, by have := HS.out; omega, Lib.hid HE.out.1, Lib.hid HE.out.2⟩, ?_⟩
          simp [intOf]
          have := HS.out
          omega
        | true =>
          rw [hq] at hst HL
          have HO2 := Lib.hid (And.intro hO (And.intro hst (show (wantS a s').length ≤ 100000 by unfold wantS; rw [List.length_map]; exact Nat.le_trans (List.length_filter_le _ _) (by simp; omega))))
          clear hO hst hs' hs hq HO
          go_wp2_with fail
          refine (HL.out _).mono ?_
          rintro e w5 ⟨rfl, f5⟩
          have fb : Fr (fun _ => False) w5 (w5.alloc (.cells #[.int .i64 (s : Int)] 22)) := (Fr.refl _ w5).alloc _
          have HE := Lib.hid (And.intro (HO2.out.1.keep0 (f5.trans fb (fun _ _ q => q))) (And.intro ((HF.out.trans f5 (fun _ _ q => q)).trans fb (fun _ _ q => q)) (And.intro ((Blk.new w5 22 #[.int .i64 (s : Int)]).cell 0) HO2.out.2)))
          clear f5 HO2 fb
          go_wp2_with (at_builtin; refine wpList_push_st rfl (.tmp 47) (.tmp 49) rfl rfl HE.out.1 rfl HE.out.2.2.1 HE.out.2.2.2.2 HE.out.2.1.size ?_; intro v3 w6 ho3 hg3 hat3; have HG := Lib.hid (And.intro ho3 (HE.out.2.1.grown hg3 (fun k hk => .inr (HE.out.1.low hk)))); clear ho3 hg3 hat3)
          refine ⟨⟨v3, s + 1, rfl, by go_num, by omega, by have := HS.out; omega, Lib.hid (by rw [Nat.add_sub_cancel, HE.out.2.2.2.1]; exact HG.out.1), Lib.hid HG.out.2⟩, ?_⟩
          simp [intOf]
          have := HS.out
          omega
      · obtain rfl : s = 10 := by omega
        have hO := HO.out
        rw [show 10 - 1 = 9 from rfl, wantS_nine] at hO
        have HO2 := Lib.hid hO
        clear hO HO hs hs1 hs2
        go_wp2_with fail
        refine (HNX.out _).mono ?_
        rintro e w5 ⟨v5, rfl, hv5, f5⟩
        have HE := Lib.hid (And.intro hv5 (And.intro (HO2.out.keep0 f5) (HF.out.trans f5 (fun _ _ q => q))))
        clear hv5 f5 HO2
        have hsm := lsame_any HE.out.1 HE.out.2.1.ints (by have := nextS_len a; omega) (by have := nextS_len a; omega)
        rw [show decide (nextS a = nextS a) = true from decide_eq_true rfl] at hsm
        have HSM := Lib.hid hsm
        clear hsm
        go_wp2_with fail
        refine HSM.out.mono ?_
        rintro e w6 ⟨rfl, f6⟩
        have HE6 := Lib.hid (HE.out.2.2.trans f6 (fun _ _ q => q))
        clear f6
        go_wp2_with fail
        refine (HK.out _).mono ?_
        rintro e w7 ⟨rfl, f7⟩
        have HE7 := Lib.hid (HE6.out.trans f7 (fun _ _ q => q))
        clear f7
        go_wp2_with fail
        go_ret
        exact ⟨rfl, HE7.out⟩
  | true =>
    rw [hm] at HPM HRM HPV
    clear hm
    cases hl : lastS a with
    | false =>
      rw [hl] at HPL HRT HPV
      clear hl
      go_enter Try.func3, Try.ntmps3
      go_wp2_with fail
      refine (HPM.out _).mono ?_
      rintro e w1 ⟨rfl, f1⟩
      have HF1 := Lib.hid ((Fr.refl (fun _ => False) w).trans f1 (fun _ _ q => q))
      clear f1
      go_wp2_with fail
      refine (HRM.out _).mono ?_
      rintro e w' ⟨rfl, rfl⟩
      go_wp2_with fail
      refine (HPL.out _).mono ?_
      rintro e w2 ⟨rfl, f2⟩
      have HF2 := Lib.hid (HF1.out.trans f2 (fun _ _ q => q))
      clear f2
      go_wp2_with fail
      refine (HRT.out _).mono ?_
      rintro e w3 ⟨rfl, f3⟩
      have HF3 := Lib.hid (HF2.out.trans f3 (fun _ _ q => q))
      clear f3
      go_wp2_with fail
      refine (HPV.out _).mono ?_
      rintro e w4 ⟨rfl, f4⟩
      have HF4 := Lib.hid (HF3.out.trans f4 (fun _ _ q => q))
      clear f4
      go_wp2_with fail
      refine (HRM.out _).mono ?_
      rintro e w' ⟨rfl, rfl⟩
      go_wp2_with fail
      refine (HRT.out _).mono ?_
      rintro e w5 ⟨rfl, f5⟩
      have HF5 := Lib.hid (HF4.out.trans f5 (fun _ _ q => q))
      clear f5
      go_wp2_with fail
      refine (HPD.out _).mono ?_
      rintro e w6 ⟨rfl, f6⟩
      have HF6 := Lib.hid (HF5.out.trans f6 (fun _ _ q => q))
      clear f6
      go_wp2_with fail
      refine (HRD.out _).mono ?_
      rintro e w7 ⟨rfl, f7⟩
      have HF7 := Lib.hid (HF6.out.trans f7 (fun _ _ q => q))
      clear f7
      go_wp2_with fail
      have HB0 : Hid (RowS w7 w.heap.size (.slice none 0 0) (wantS a (1 - 1))) := Lib.hid (RowS.nil _ _)
      have HFK := HF7
      go_loopw [5, 6] (fun o x wq => ∃ (ov : Value) (s : Nat), ov = o ∧ x = .int .i64 s ∧ 1 ≤ s ∧ s ≤ 10 ∧ Hid (RowS wq w.heap.size ov (wantS a (s - 1))) ∧ Hid (Fr (fun _ => False) w wq)) (fun _ x _ => 10 - (intOf x).toNat)
      case atStart => exact ⟨_, 1, rfl, rfl, by omega, by omega, HB0, HFK⟩
      case round =>
        clear HB0 HFK HF7
        obtain ⟨o, s, ho, rfl, hs1, hs2, HO, HF⟩ := hrel
        subst ho
        by_cases hs : s ≤ 9
        · have hsi : (s : Int) ≤ 9 := by omega
          have hs0 : (1 : Int) ≤ (s : Int) := by omega
          obtain ⟨s', hs'⟩ : ∃ s', s = s' + 1 := ⟨s - 1, by omega⟩
          have hst := wantS_step a s'
          rw [← hs'] at hst
          have hO := HO.out
          rw [show s - 1 = s' by omega] at hO
          have HL := Lib.hid (HRL.out (s : Int))
          have HS := Lib.hid hs
          cases hq : leadsS a (s : Int) with
          | false =>
            rw [hq] at hst HL
            have HO2 : Hid (RowS wr w.heap.size o (wantS a (s + 1 - 1))) := Lib.hid (by rw [Nat.add_sub_cancel, hst]; exact hO)
            clear hO hst hs' hs hq HO
            go_wp2_with fail
            refine (HL.out _).mono ?_
            rintro e w5 ⟨rfl, f5⟩
            have HE := Lib.hid (And.intro (HO2.out.keep0 f5) (HF.out.trans f5 (fun _ _ q => q)))
            clear f5 HO2
            go_wp2_with fail
            refine ⟨⟨o, s + 1, rfl, by go_num, by omega, by have := HS.out; omega, Lib.hid HE.out.1, Lib.hid HE.out.2⟩, ?_⟩
            simp [intOf]
            have := HS.out
            omega
          | true =>
            rw [hq] at hst HL
            have HO2 := Lib.hid (And.intro hO (And.intro hst (show (wantS a s').length ≤ 100000 by unfold wantS; rw [List.length_map]; exact Nat.le_trans (List.length_filter_le _ _) (by simp; omega))))
            clear hO hst hs' hs hq HO
            go_wp2_with fail
            refine (HL.out _).mono ?_
            rintro e w5 ⟨rfl, f5⟩
            have fb : Fr (fun _ => False) w5 (w5.alloc (.cells #[.int .i64 (s : Int)] 22)) := (Fr.refl _ w5).alloc _
            have HE := Lib.hid (And.intro (HO2.out.1.keep0 (f5.trans fb (fun _ _ q => q))) (And.intro ((HF.out.trans f5 (fun _ _ q => q)).trans fb (fun _ _ q => q)) (And.intro ((Blk.new w5 22 #[.int .i64 (s : Int)]).cell 0) HO2.out.2)))
            clear f5 HO2 fb
            go_wp2_with (at_builtin; refine wpList_push_st rfl (.tmp 47) (.tmp 49) rfl rfl HE.out.1 rfl HE.out.2.2.1 HE.out.2.2.2.2 HE.out.2.1.size ?_; intro v3 w6 ho3 hg3 hat3; have HG := Lib.hid (And.intro ho3 (HE.out.2.1.grown hg3 (fun k hk => .inr (HE.out.1.low hk)))); clear ho3 hg3 hat3)
            refine ⟨⟨v3, s + 1, rfl, by go_num, by omega, by have := HS.out; omega, Lib.hid (by rw [Nat.add_sub_cancel, HE.out.2.2.2.1]; exact HG.out.1), Lib.hid HG.out.2⟩, ?_⟩
            simp [intOf]
            have := HS.out
            omega
        · obtain rfl : s = 10 := by omega
          have hO := HO.out
          rw [show 10 - 1 = 9 from rfl, wantS_nine] at hO
          have HO2 := Lib.hid hO
          clear hO HO hs hs1 hs2
          go_wp2_with fail
          refine (HNX.out _).mono ?_
          rintro e w5 ⟨v5, rfl, hv5, f5⟩
          have HE := Lib.hid (And.intro hv5 (And.intro (HO2.out.keep0 f5) (HF.out.trans f5 (fun _ _ q => q))))
          clear hv5 f5 HO2
          have hsm := lsame_any HE.out.1 HE.out.2.1.ints (by have := nextS_len a; omega) (by have := nextS_len a; omega)
          rw [show decide (nextS a = nextS a) = true from decide_eq_true rfl] at hsm
          have HSM := Lib.hid hsm
          clear hsm
          go_wp2_with fail
          refine HSM.out.mono ?_
          rintro e w6 ⟨rfl, f6⟩
          have HE6 := Lib.hid (HE.out.2.2.trans f6 (fun _ _ q => q))
          clear f6
          go_wp2_with fail
          refine (HK.out _).mono ?_
          rintro e w7 ⟨rfl, f7⟩
          have HE7 := Lib.hid (HE6.out.trans f7 (fun _ _ q => q))
          clear f7
          go_wp2_with fail
          go_ret
          exact ⟨rfl, HE7.out⟩
    | true =>
      rw [hl] at HPL HRT HPV
      clear hl
      go_enter Try.func3, Try.ntmps3
      go_wp2_with fail
      refine (HPM.out _).mono ?_
      rintro e w1 ⟨rfl, f1⟩
      have HF1 := Lib.hid ((Fr.refl (fun _ => False) w).trans f1 (fun _ _ q => q))
      clear f1
      go_wp2_with fail
      refine (HRM.out _).mono ?_
      rintro e w' ⟨rfl, rfl⟩
      go_wp2_with fail
      refine (HPL.out _).mono ?_
      rintro e w2 ⟨rfl, f2⟩
      have HF2 := Lib.hid (HF1.out.trans f2 (fun _ _ q => q))
      clear f2
      go_wp2_with fail
      refine (HRT.out _).mono ?_
      rintro e w3 ⟨rfl, f3⟩
      have HF3 := Lib.hid (HF2.out.trans f3 (fun _ _ q => q))
      clear f3
      go_wp2_with fail
      refine (HPV.out _).mono ?_
      rintro e w4 ⟨rfl, f4⟩
      have HF4 := Lib.hid (HF3.out.trans f4 (fun _ _ q => q))
      clear f4
      go_wp2_with fail
      refine (HRM.out _).mono ?_
      rintro e w' ⟨rfl, rfl⟩
      go_wp2_with fail
      refine (HRT.out _).mono ?_
      rintro e w5 ⟨rfl, f5⟩
      have HF5 := Lib.hid (HF4.out.trans f5 (fun _ _ q => q))
      clear f5
      go_wp2_with fail
      refine (HPD.out _).mono ?_
      rintro e w6 ⟨rfl, f6⟩
      have HF6 := Lib.hid (HF5.out.trans f6 (fun _ _ q => q))
      clear f6
      go_wp2_with fail
      refine (HRD.out _).mono ?_
      rintro e w7 ⟨rfl, f7⟩
      have HF7 := Lib.hid (HF6.out.trans f7 (fun _ _ q => q))
      clear f7
      go_wp2_with fail
      have HB0 : Hid (RowS w7 w.heap.size (.slice none 0 0) (wantS a (1 - 1))) := Lib.hid (RowS.nil _ _)
      have HFK := HF7
      go_loopw [5, 6] (fun o x wq => ∃ (ov : Value) (s : Nat), ov = o ∧ x = .int .i64 s ∧ 1 ≤ s ∧ s ≤ 10 ∧ Hid (RowS wq w.heap.size ov (wantS a (s - 1))) ∧ Hid (Fr (fun _ => False) w wq)) (fun _ x _ => 10 - (intOf x).toNat)
      case atStart => exact ⟨_, 1, rfl, rfl, by omega, by omega, HB0, HFK⟩
      case round =>
        clear HB0 HFK HF7
        obtain ⟨o, s, ho, rfl, hs1, hs2, HO, HF⟩ := hrel
        subst ho
        by_cases hs : s ≤ 9
        · have hsi : (s : Int) ≤ 9 := by omega
          have hs0 : (1 : Int) ≤ (s : Int) := by omega
          obtain ⟨s', hs'⟩ : ∃ s', s = s' + 1 := ⟨s - 1, by omega⟩
          have hst := wantS_step a s'
          rw [← hs'] at hst
          have hO := HO.out
          rw [show s - 1 = s' by omega] at hO
          have HL := Lib.hid (HRL.out (s : Int))
          have HS := Lib.hid hs
          cases hq : leadsS a (s : Int) with
          | false =>
            rw [hq] at hst HL
            have HO2 : Hid (RowS wr w.heap.size o (wantS a (s + 1 - 1))) := Lib.hid (by rw [Nat.add_sub_cancel, hst]; exact hO)
            clear hO hst hs' hs hq HO
            go_wp2_with fail
            refine (HL.out _).mono ?_
            rintro e w5 ⟨rfl, f5⟩
            have HE := Lib.hid (And.intro (HO2.out.keep0 f5) (HF.out.trans f5 (fun _ _ q => q)))
            clear f5 HO2
            go_wp2_with fail
            refine ⟨⟨o, s + 1, rfl, by go_num, by omega, by have := HS.out; omega, Lib.hid HE.out.1, Lib.hid HE.out.2⟩, ?_⟩
            simp [intOf]
            have := HS.out
            omega
          | true =>
            rw [hq] at hst HL
            have HO2 := Lib.hid (And.intro hO (And.intro hst (show (wantS a s').length ≤ 100000 by unfold wantS; rw [List.length_map]; exact Nat.le_trans (List.length_filter_le _ _) (by simp; omega))))
            clear hO hst hs' hs hq HO
            go_wp2_with fail
            refine (HL.out _).mono ?_
            rintro e w5 ⟨rfl, f5⟩
            have fb : Fr (fun _ => False) w5 (w5.alloc (.cells #[.int .i64 (s : Int)] 22)) := (Fr.refl _ w5).alloc _
            have HE := Lib.hid (And.intro (HO2.out.1.keep0 (f5.trans fb (fun _ _ q => q))) (And.intro ((HF.out.trans f5 (fun _ _ q => q)).trans fb (fun _ _ q => q)) (And.intro ((Blk.new w5 22 #[.int .i64 (s : Int)]).cell 0) HO2.out.2)))
            clear f5 HO2 fb
            go_wp2_with (at_builtin; refine wpList_push_st rfl (.tmp 47) (.tmp 49) rfl rfl HE.out.1 rfl HE.out.2.2.1 HE.out.2.2.2.2 HE.out.2.1.size ?_; intro v3 w6 ho3 hg3 hat3; have HG := Lib.hid (And.intro ho3 (HE.out.2.1.grown hg3 (fun k hk => .inr (HE.out.1.low hk)))); clear ho3 hg3 hat3)
            refine ⟨⟨v3, s + 1, rfl, by go_num, by omega, by have := HS.out; omega, Lib.hid (by rw [Nat.add_sub_cancel, HE.out.2.2.2.1]; exact HG.out.1), Lib.hid HG.out.2⟩, ?_⟩
            simp [intOf]
            have := HS.out
            omega
        · obtain rfl : s = 10 := by omega
          have hO := HO.out
          rw [show 10 - 1 = 9 from rfl, wantS_nine] at hO
          have HO2 := Lib.hid hO
          clear hO HO hs hs1 hs2
          go_wp2_with fail
          refine (HNX.out _).mono ?_
          rintro e w5 ⟨v5, rfl, hv5, f5⟩
          have HE := Lib.hid (And.intro hv5 (And.intro (HO2.out.keep0 f5) (HF.out.trans f5 (fun _ _ q => q))))
          clear hv5 f5 HO2
          have hsm := lsame_any HE.out.1 HE.out.2.1.ints (by have := nextS_len a; omega) (by have := nextS_len a; omega)
          rw [show decide (nextS a = nextS a) = true from decide_eq_true rfl] at hsm
          have HSM := Lib.hid hsm
          clear hsm
          go_wp2_with fail
          refine HSM.out.mono ?_
          rintro e w6 ⟨rfl, f6⟩
          have HE6 := Lib.hid (HE.out.2.2.trans f6 (fun _ _ q => q))
          clear f6
          go_wp2_with fail
          refine (HK.out _).mono ?_
          rintro e w7 ⟨rfl, f7⟩
          have HE7 := Lib.hid (HE6.out.trans f7 (fun _ _ q => q))
          clear f7
          go_wp2_with fail
          go_ret
          exact ⟨rfl, HE7.out⟩
end Go.Proofs.Ythffnepfnadakaa
