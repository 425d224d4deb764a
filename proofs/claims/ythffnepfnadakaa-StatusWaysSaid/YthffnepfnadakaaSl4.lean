/- The law StatusWays, of what status' calls answer. -/
import Derived.Test.YthffnepfnadakaaSl5
namespace Go.Proofs.Ythffnepfnadakaa
open Go.RowKit

theorem way_nodup : all9 (fun a => all9 fun b => decide (wayL a b).Nodup) = true := by decide +kernel
theorem way_facts {a b : Nat} (h1 : 1 ≤ a) (h2 : a ≤ 9) (h3 : 1 ≤ b) (h4 : b ≤ 9) : (wayL a b).length ≤ 9 ∧ (∀ (i j : Nat) (x y : Nat), j < i → (wayL a b)[j]? = some x → (wayL a b)[i]? = some y → ((x : Int) == (y : Int)) = false) := by
  constructor
  · have := all9_of (all9_of way_ok h1 h2) h3 h4
    cases h : wayL a b with
    | nil => simp
    | cons x y =>
      rw [h] at this
      simp only [List.isEmpty_cons, Bool.false_or, Bool.and_eq_true, decide_eq_true_eq] at this
      exact this.2
  · intro i j x y hij hx hy
    have hn : (wayL a b).Nodup := of_decide_eq_true (all9_of (all9_of way_nodup h1 h2) h3 h4)
    obtain ⟨q1, rfl⟩ := List.getElem?_eq_some_iff.1 hx
    obtain ⟨q2, rfl⟩ := List.getElem?_eq_some_iff.1 hy
    have := List.pairwise_iff_getElem.1 hn j i q1 q2 hij
    rw [beq_eq_false_iff_ne]
    omega
set_option maxRecDepth 100000 in
set_option maxHeartbeats 4000000 in
theorem sways (P : StatusP) (a b : Int) (w : World) : Calls Try.prog 6 #[.int .i64 a, .int .i64 b] w (Tru w) := by
  have HK := Lib.hid (fun W => sknown P W)
  have HW := Lib.hid (P.way a b w)
  have HRA := Lib.hid (rmays_any a)
  have HRB := Lib.hid (rmays_any b)
  cases hm : mayS a with
  | false =>
    have e1 : wayE a b = 2 := by unfold wayE; rw [hm]; rfl
    have e2 : wayS a b = [] := by unfold wayS; rw [hm]; rfl
    rw [e1, e2] at HW
    rw [hm] at HRA
    clear hm e1 e2
    go_enter Try.func6, Try.ntmps6
    go_wp2_with fail
    refine HW.out.mono ?_
    rintro e w1 ⟨v1, rfl, hv1, f1⟩
    obtain ⟨A1, c1, rfl, hml1, hA1⟩ := hv1
    have HF1 := Lib.hid f1
    clear f1 hml1 hA1
    simp only [List.length_nil]
    go_wp2_with fail
    refine (HRA.out _).mono ?_
    rintro e w' ⟨rfl, rfl⟩
    go_wp2_with fail
    refine (HK.out _).mono ?_
    rintro e wk ⟨rfl, fk⟩
    have HFK := Lib.hid (HF1.out.trans fk (fun _ _ q => q))
    clear fk
    go_wp2_with fail
    go_ret
    exact ⟨rfl, HFK.out⟩
  | true =>
    rw [hm] at HRA
    cases hn : mayS b with
    | false =>
      have e1 : wayE a b = 2 := by unfold wayE; rw [hm, hn]; rfl
      have e2 : wayS a b = [] := by unfold wayS; rw [hm, hn]; rfl
      rw [e1, e2] at HW
      rw [hn] at HRB
      clear hm hn e1 e2
      go_enter Try.func6, Try.ntmps6
      go_wp2_with fail
      refine HW.out.mono ?_
      rintro e w1 ⟨v1, rfl, hv1, f1⟩
      obtain ⟨A1, c1, rfl, hml1, hA1⟩ := hv1
      have HF1 := Lib.hid f1
      clear f1 hml1 hA1
      simp only [List.length_nil]
      go_wp2_with fail
      refine (HRA.out _).mono ?_
      rintro e w' ⟨rfl, rfl⟩
      go_wp2_with fail
      refine (HRB.out _).mono ?_
      rintro e w' ⟨rfl, rfl⟩
      go_wp2_with fail
      refine (HK.out _).mono ?_
      rintro e wk ⟨rfl, fk⟩
      have HFK := Lib.hid (HF1.out.trans fk (fun _ _ q => q))
      clear fk
      go_wp2_with fail
      go_ret
      exact ⟨rfl, HFK.out⟩
    | true =>
      rw [hn] at HRB
      have hr : 1 ≤ a ∧ a ≤ 9 := of_decide_eq_true hm
      have hs : 1 ≤ b ∧ b ≤ 9 := of_decide_eq_true hn
      have e1 : wayE a b = if (wayL a.toNat b.toNat).isEmpty then 9 else 0 := by unfold wayE; rw [hm, hn]; rfl
      have e2 : wayS a b = upN (wayL a.toNat b.toNat) := by unfold wayS; rw [hm, hn]; rfl
      rw [e1, e2] at HW
      clear hm hn e1 e2
      obtain ⟨ka, rfl⟩ : ∃ k : Nat, a = k := ⟨a.toNat, by omega⟩
      obtain ⟨kb, rfl⟩ : ∃ k : Nat, b = k := ⟨b.toNat, by omega⟩
      rw [Int.toNat_natCast, Int.toNat_natCast] at HW
      have HRW := Lib.hid (fun W => rway_any ka kb (by omega) (by omega) W)
      have hwf := way_facts (a := ka) (b := kb) (by omega) (by omega) (by omega) (by omega)
      have hop := all9_of way_open (n := kb) (by omega) (by omega)
      have hla := all9_of way_last (n := ka) (by omega) (by omega)
      have HRT := Lib.hid (P.last (ka : Int))
      have hlk : lastS (ka : Int) = (nextL ka).isEmpty := by
        unfold lastS
        rw [show mayS (ka : Int) = true from decide_eq_true hr, Int.toNat_natCast]
        rfl
      rw [hlk] at HRT
      clear hlk
      have hla2 : (nextL ka).isEmpty = true → (wayL ka kb).isEmpty = false → ka = kb := fun q1 q2 => by
        rw [q1] at hla
        simp only [Bool.not_true, Bool.false_or] at hla
        have h5 := all9_of hla (n := kb) (by omega) (by omega)
        rw [q2] at h5
        simpa using h5
      have HKB := Lib.hid hs
      clear hla hs
      obtain ⟨L, hL⟩ : ∃ L, L = wayL ka kb := ⟨_, rfl⟩
      rw [← hL] at HW HRW hwf hla2
      cases hE : L.isEmpty with
      | true =>
        rw [hE, if_pos rfl] at HW
        obtain rfl : L = [] := List.isEmpty_iff.1 hE
        have hk1 : ka ≠ 1 := fun q => by
          subst q
          rw [← hL] at hop
          cases hop
        have hkn : ((ka : Int) != 1) = true := by rw [bne_iff_ne]; omega
        clear hE hL hop hwf hla2 hk1 hr
        simp only [upN, List.map_nil] at HW HRW
        go_enter Try.func6, Try.ntmps6
        go_wp2_with fail
        refine HW.out.mono ?_
        rintro e w1 ⟨v1, rfl, hv1, f1⟩
        obtain ⟨A1, c1, rfl, hml1, hA1⟩ := hv1
        have HF1 := Lib.hid f1
        clear f1 hml1 hA1
        simp only [List.length_nil]
        go_wp2_with fail
        refine (HRA.out _).mono ?_
        rintro e w' ⟨rfl, rfl⟩
        go_wp2_with fail
        refine (HRB.out _).mono ?_
        rintro e w' ⟨rfl, rfl⟩
        go_wp2_with fail
        refine (HRW.out _).mono ?_
        rintro e w2 ⟨v2, rfl, hv2, f2⟩
        obtain ⟨A2, c2, rfl, hml2, hA2⟩ := hv2
        have HF2 := Lib.hid (HF1.out.trans f2 (fun _ _ q => q))
        clear f2 hml2 hA2 HF1
        simp only [List.length_nil]
        go_wp2_with fail
        refine (HK.out _).mono ?_
        rintro e wk ⟨rfl, fk⟩
        have HFK := Lib.hid (HF2.out.trans fk (fun _ _ q => q))
        clear fk
        go_wp2_with fail
        go_ret
        exact ⟨rfl, HFK.out⟩
      | false =>
        rw [hE] at HW
        simp only [Bool.false_eq_true, if_false] at HW
        have HL2 := Lib.hid hla2
        have HWF := Lib.hid hwf
        obtain ⟨m, hm⟩ : ∃ m, m = (upN L).length := ⟨_, rfl⟩
        have hml : (upN L).length = L.length := upN_len L
        have hm0 : 0 < m := by
          rw [hm, hml]
          cases L with
          | nil => cases hE
          | cons x y => simp
        have hm9 : m ≤ 9 := by rw [hm, hml]; exact hwf.1
        have HM := Lib.hid (And.intro hm hE)
        have HSM := Lib.hid (fun W v u (hv : IntsAt W v (upN L)) (hu : IntsAt W u (upN L)) => lsame_any hv hu (by omega) (by omega))
        rw [show decide (upN L = upN L) = true from decide_eq_true rfl] at HSM
        have hmi : (0 : Int) < (m : Int) := by omega
        have hmz : ((m : Int) == 0) = false := by rw [beq_eq_false_iff_ne]; omega
        clear hL hop hwf hla2 hr hE hml hm0 hm
        go_enter Try.func6, Try.ntmps6
        go_wp2_with fail
        refine HW.out.mono ?_
        rintro e w1 ⟨v1, rfl, hv1, f1⟩
        have HV1 := Lib.hid hv1
        have HF1 := Lib.hid f1
        clear f1 hv1
        go_wp2_with fail
        refine (HRA.out _).mono ?_
        rintro e w' ⟨rfl, rfl⟩
        go_wp2_with fail
        refine (HRB.out _).mono ?_
        rintro e w' ⟨rfl, rfl⟩
        go_wp2_with fail
        refine (HRW.out _).mono ?_
        rintro e w2 ⟨v2, rfl, hv2, f2⟩
        have HV2 := Lib.hid hv2
        have HVN := Lib.hid (HV1.out.new0 f2)
        have HF2 := Lib.hid (HF1.out.trans f2 (fun _ _ q => q))
        clear f2 HF1 HV1
        obtain ⟨A2, c2, rfl, hml2, hA2⟩ := hv2
        rw [← HM.out.1] at HV2 hml2 hA2 ⊢
        clear hml2 hA2
        go_wp2_with fail
        refine (HSM.out _ _ _ HVN.out HV2.out).mono ?_
        rintro e w3 ⟨rfl, f3⟩
        have HV3 := HVN.out.new0 f3
        have HF3 := Lib.hid (HF2.out.trans f3 (fun _ _ q => q))
        clear f3 HVN HV2 HF2
        obtain ⟨A1, c1, rfl, hml1, hA1⟩ := HV3
        rw [← HM.out.1] at hml1 hA1 ⊢
        have HA := Lib.hid (hA1 (by omega))
        clear hml1 hA1 HRA HRB HW HRW HSM
        go_wp2_with fail
        go_loopw [8] (fun x wq => ∃ k : Nat, x = .int .i64 k ∧ k ≤ m ∧ Hid (Fr (fun _ => False) w wq) ∧ Hid (Fr (fun _ => False) w3 wq)) (fun x _ => m - (intOf x).toNat)
        case atStart => exact ⟨0, rfl, Nat.zero_le _, HF3, Lib.hid (Fr.refl _ _)⟩
        case round =>
          clear HF3
          obtain ⟨k, rfl, hk, HFk, HGk⟩ := hrel
          by_cases hlt : k < m
          · have hki : (k : Int) < (m : Int) := by omega
            have HLT := Lib.hid hlt
            clear hk
            go_wp2_with fail
            go_loopw [9] (fun x wq => ∃ j : Nat, x = .int .i64 j ∧ j ≤ k ∧ Hid (Fr (fun _ => False) w wq) ∧ Hid (Fr (fun _ => False) w3 wq)) (fun x _ => k - (intOf x).toNat)
            case atStart => exact ⟨0, rfl, Nat.zero_le _, HFk, HGk⟩
            case round =>
              clear HFk HGk
              obtain ⟨j, rfl, hj, HF, HG⟩ := hrel
              by_cases hjk : j < k
              · obtain ⟨b1, o1, rfl, hcA⟩ := HA.out
                obtain ⟨x, hx⟩ : ∃ x, L[j]? = some x := ⟨_, List.getElem?_eq_getElem (by have := HM.out.1; rw [upN_len] at this; omega)⟩
                obtain ⟨y, hy⟩ : ∃ y, L[k]? = some y := ⟨_, List.getElem?_eq_getElem (by have := HM.out.1; rw [upN_len] at this; omega)⟩
                have hc1 := hcA j _ (upN_get hx)
                have hc2 := hcA k _ (upN_get hy)
                have hd1 := (HG.out.cell (p := ⟨b1, o1 + j, none⟩) (World.block_lt_of_cell? w3 _ hc1) (fun q => q)).trans hc1
                have hd2 := (HG.out.cell (p := ⟨b1, o1 + k, none⟩) (World.block_lt_of_cell? w3 _ hc2) (fun q => q)).trans hc2
                have hb1 := HWF.out.2 k j x y hjk hx hy
                have hjj : (j : Int) < (k : Int) := by omega
                have hj0 : (0 : Int) ≤ (j : Int) := by omega
                have hk0 : (0 : Int) ≤ (k : Int) := by omega
                have hjm : (j : Int) < (m : Int) := by omega
                have HJK := Lib.hid hjk
                clear hc1 hc2 hcA hx hy hjk hlt hj
                go_wp2_with fail
                go_region
                go_wp2_with fail
                refine ⟨⟨j + 1, by go_num, by have := HJK.out; omega, Lib.hid HF.out.drew, Lib.hid HG.out.drew⟩, ?_⟩
                simp [intOf]
                have := HJK.out
                omega
              · obtain rfl : j = k := by omega
                have hii : ¬ (j : Int) < (j : Int) := by omega
                clear hjk hj hlt
                go_wp2_with fail
                refine ⟨⟨j + 1, by go_num, by have := HLT.out; omega, HF, HG⟩, ?_⟩
                simp [intOf]
                have := HLT.out
                omega
          · obtain rfl : k = m := by omega
            have HF := HFk
            clear hlt hk HFk HGk
            cases hq : (nextL ka).isEmpty with
            | false =>
              rw [hq] at HRT
              clear hq
              go_wp2_with fail
              refine (HRT.out _).mono ?_
              rintro e w4 ⟨rfl, f4⟩
              have HF4 := Lib.hid (HF.out.trans f4 (fun _ _ q => q))
              clear f4
              go_wp2_with fail
              refine (HK.out _).mono ?_
              rintro e wk ⟨rfl, fk⟩
              have HFK := Lib.hid (HF4.out.trans fk (fun _ _ q => q))
              clear fk
              go_wp2_with fail
              go_ret
              exact ⟨rfl, HFK.out⟩
            | true =>
              rw [hq] at HRT
              obtain rfl := HL2.out hq HM.out.2
              have haa : ((ka : Int) == (ka : Int)) = true := by simp
              clear hq
              go_wp2_with fail
              refine (HRT.out _).mono ?_
              rintro e w4 ⟨rfl, f4⟩
              have HF4 := Lib.hid (HF.out.trans f4 (fun _ _ q => q))
              clear f4
              go_wp2_with fail
              refine (HK.out _).mono ?_
              rintro e wk ⟨rfl, fk⟩
              have HFK := Lib.hid (HF4.out.trans fk (fun _ _ q => q))
              clear fk
              go_wp2_with fail
              go_ret
              exact ⟨rfl, HFK.out⟩
end Go.Proofs.Ythffnepfnadakaa
