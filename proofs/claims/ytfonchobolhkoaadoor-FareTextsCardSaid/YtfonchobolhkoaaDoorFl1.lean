/- The laws of fare, of what its calls answer: FareDeals. -/
import Derived.Test.YtfonchobolhkoaaDoorFpr
namespace Go.Proofs.YtfonchobolhkoaaDoor
open Go.RowKit

theorem may_nats {zs : List Int} (h : mayW zs = true) : upI (zs.map Int.toNat) = zs ∧ (∀ x ∈ zs.map Int.toNat, x ≤ 1000000000000) ∧ 0 < sumN (zs.map Int.toNat) := by
  unfold mayW at h
  rw [Bool.and_eq_true, List.all_eq_true, List.any_eq_true] at h
  obtain ⟨h1, z, hz, h2⟩ := h
  have h1' : ∀ z ∈ zs, 0 ≤ z ∧ z ≤ 1000000000000 := fun z hz => of_decide_eq_true (h1 z hz)
  have h2' : 0 < z := of_decide_eq_true h2
  refine ⟨?_, ?_, ?_⟩
  · unfold upI
    rw [List.map_map]
    conv => rhs; rw [← List.map_id zs]
    apply List.map_congr_left
    intro y hy
    have := h1' y hy
    simp only [Function.comp, id]
    omega
  · intro x hx
    obtain ⟨y, hy, rfl⟩ := List.mem_map.1 hx
    have := h1' y hy
    omega
  · have := sumN_mem (List.mem_map.2 ⟨z, hz, rfl⟩ : z.toNat ∈ zs.map Int.toNat)
    omega
def Tru (w : World) (e : Ending) (w' : World) : Prop := e = .returned (.bool true) ∧ Fr (fun _ => False) w w'
set_option maxRecDepth 100000 in
set_option maxHeartbeats 2000000 in
theorem fdeals (P : FareP) {w : World} {v : Value} {zs : List Int} (a : Int) (ha0 : -9223372036854775808 ≤ a) (ha1 : a ≤ 9223372036854775807) (hv : IntsAt w v zs) (hvk : Vok w) : Calls Tryd.prog 3 #[.int .i64 a, v] w (Tru w) := by
  have HK := Lib.hid (fun W (fk : Fr (fun _ => False) w W) => fknown P W (hvk.keep fk))
  clear hvk
  have HV := Lib.hid hv
  obtain ⟨A, c, rfl, hml, _⟩ := hv
  obtain ⟨m, hm⟩ : ∃ m, m = zs.length := ⟨_, rfl⟩
  rw [← hm] at HV ⊢
  by_cases h1 : 100 < m
  · have h1i : (100 : Int) < (m : Int) := by omega
    clear hm ha0 ha1 hml h1
    go_enter Tryd.func3, Tryd.ntmps3
    go_wp2_with fail
    refine (HK.out _ (Fr.refl _ _)).mono ?_
    rintro e w1 ⟨rfl, f1⟩
    have HF := Lib.hid f1
    clear f1
    go_wp2_with fail
    go_ret
    exact ⟨rfl, HF.out⟩
  · have h1i : ¬ (100 : Int) < (m : Int) := by omega
    have HP := Lib.hid (P.deal w a _ zs ha0 ha1 HV.out (by omega))
    have HW := Lib.hid (fun W (h : IntsAt W (.slice A m c) zs) => rmayw_any h (by omega))
    obtain ⟨E, hE⟩ : ∃ E, E = dealE a zs := ⟨_, rfl⟩
    obtain ⟨R, hR⟩ : ∃ R, R = dealR a zs := ⟨_, rfl⟩
    rw [← hE, ← hR] at HP
    have hRE : R = if E = 0 then upI (dealL a.toNat (zs.map Int.toNat)) else [] := by rw [hR, hE]; rfl
    unfold dealE at hE
    rw [← hm] at hE
    have hbad : E ≠ 0 → R = [] := fun h => by rw [hRE, if_neg h]
    -- an answer that is an error
    by_cases h2 : 64 < m
    · have h2i : (64 : Int) < (m : Int) := by omega
      rw [if_pos h2] at hE
      subst hE
      obtain rfl := hbad (by omega)
      clear hm ha0 ha1 hml h1 h2 hR hRE hbad
      go_enter Tryd.func3, Tryd.ntmps3
      go_wp2_with fail
      refine HP.out.mono ?_
      rintro e w1 ⟨v1, rfl, hv1, f1⟩
      obtain ⟨A1, c1, rfl, _⟩ := hv1
      have HF := Lib.hid f1
      clear f1
      go_wp2_with fail
      refine (HK.out _ HF.out).mono ?_
      rintro e w2 ⟨rfl, f2⟩
      have HF2 := Lib.hid (HF.out.trans f2 (fun _ _ q => q))
      clear f2
      go_wp2_with fail
      go_ret
      exact ⟨rfl, HF2.out⟩
    · have h2i : ¬ (64 : Int) < (m : Int) := by omega
      rw [if_neg h2] at hE
      cases hmw : mayW zs with
      | false =>
        rw [if_pos hmw] at hE
        rw [hmw] at HW
        subst hE
        obtain rfl := hbad (by omega)
        clear hm ha0 ha1 hml h1 h2 hR hRE hbad hmw
        go_enter Tryd.func3, Tryd.ntmps3
        go_wp2_with fail
        refine HP.out.mono ?_
        rintro e w1 ⟨v1, rfl, hv1, f1⟩
        obtain ⟨A1, c1, rfl, _⟩ := hv1
        have HF := Lib.hid f1
        clear f1
        go_wp2_with fail
        refine (HW.out _ (HV.out.new0 HF.out)).mono ?_
        rintro e w2 ⟨rfl, rfl⟩
        go_wp2_with fail
        refine (HK.out _ HF.out).mono ?_
        rintro e w3 ⟨rfl, f3⟩
        have HF2 := Lib.hid (HF.out.trans f3 (fun _ _ q => q))
        clear f3
        go_wp2_with fail
        go_ret
        exact ⟨rfl, HF2.out⟩
      | true =>
        rw [if_neg (by rw [hmw]; simp)] at hE
        rw [hmw] at HW
        have HM := Lib.hid (fun W => rmayf_any a W)
        by_cases h3 : 0 ≤ a ∧ a ≤ 1000000000000
        · rw [if_pos h3] at hE
          subst hE
          rw [if_pos rfl] at hRE
          obtain ⟨n, rfl⟩ : ∃ n : Nat, a = n := ⟨a.toNat, by omega⟩
          rw [Int.toNat_natCast] at hRE
          rw [show mayF (n : Int) = true from decide_eq_true (by omega)] at HM
          obtain ⟨k1, k2, k3⟩ := may_nats hmw
          have HD : Hid (∀ W, IntsAt W (.slice A m c) zs → Calls Tryd.prog 15 #[.int .i64 (n : Int), .slice A m c] W fun e w' => ∃ v', e = .returned v' ∧ IntsAt w' v' R ∧ Fr (fun _ => False) W w') := Lib.hid (fun W h => by
            rw [hRE]
            rw [← k1] at h
            exact rdeal_any n h (by simp; omega) k2 k3 (by omega))
          have hRl : R.length ≤ 100000 := by
            rw [hRE, List.length_map, deal_len k3, List.length_map]
            omega
          have HRL := Lib.hid hRl
          have hn0 : (0 : Int) ≤ (n : Int) := by omega
          clear hm ha0 ha1 hml h1 h2 hR hRE hbad hmw h3 k1 k2 k3 hRl
          go_enter Tryd.func3, Tryd.ntmps3
          go_wp2_with fail
          refine HP.out.mono ?_
          rintro e w1 ⟨v1, rfl, hv1, f1⟩
          have HF := Lib.hid (And.intro hv1 f1)
          clear f1 hv1
          go_wp2_with fail
          refine (HW.out _ (HV.out.new0 HF.out.2)).mono ?_
          rintro e w2 ⟨rfl, rfl⟩
          go_wp2_with fail
          refine (HM.out _).mono ?_
          rintro e w3 ⟨rfl, rfl⟩
          go_wp2_with fail
          refine (HD.out _ (HV.out.new0 HF.out.2)).mono ?_
          rintro e w4 ⟨v4, rfl, hv4, f4⟩
          have hsm := lsame_any (HF.out.1.new0 f4) hv4 HRL.out HRL.out
          rw [show decide (R = R) = true from decide_eq_true rfl] at hsm
          have HF4 := Lib.hid (And.intro hsm (HF.out.2.trans f4 (fun _ _ q => q)))
          clear hv4 f4 hsm
          go_wp2_with fail
          refine HF4.out.1.mono ?_
          rintro e w5 ⟨rfl, f5⟩
          have HF5 := Lib.hid (HF4.out.2.trans f5 (fun _ _ q => q))
          clear f5
          go_wp2_with fail
          refine (HK.out _ HF5.out).mono ?_
          rintro e w6 ⟨rfl, f6⟩
          have HF6 := Lib.hid (HF5.out.trans f6 (fun _ _ q => q))
          clear f6
          go_wp2_with fail
          go_ret
          exact ⟨rfl, HF6.out⟩
        · rw [if_neg h3] at hE
          subst hE
          obtain rfl := hbad (by omega)
          by_cases h4 : a < 0
          · clear hm ha0 ha1 hml h1 h2 hR hRE hbad hmw h3
            go_enter Tryd.func3, Tryd.ntmps3
            go_wp2_with fail
            refine HP.out.mono ?_
            rintro e w1 ⟨v1, rfl, hv1, f1⟩
            obtain ⟨A1, c1, rfl, _⟩ := hv1
            have HF := Lib.hid f1
            clear f1
            go_wp2_with fail
            refine (HW.out _ (HV.out.new0 HF.out)).mono ?_
            rintro e w2 ⟨rfl, rfl⟩
            go_wp2_with fail
            refine (HK.out _ HF.out).mono ?_
            rintro e w3 ⟨rfl, f3⟩
            have HF2 := Lib.hid (HF.out.trans f3 (fun _ _ q => q))
            clear f3
            go_wp2_with fail
            go_ret
            exact ⟨rfl, HF2.out⟩
          · rw [show mayF a = false from decide_eq_false (by omega)] at HM
            clear hm ha0 ha1 hml h1 h2 hR hRE hbad hmw h3
            go_enter Tryd.func3, Tryd.ntmps3
            go_wp2_with fail
            refine HP.out.mono ?_
            rintro e w1 ⟨v1, rfl, hv1, f1⟩
            obtain ⟨A1, c1, rfl, _⟩ := hv1
            have HF := Lib.hid f1
            clear f1
            go_wp2_with fail
            refine (HW.out _ (HV.out.new0 HF.out)).mono ?_
            rintro e w2 ⟨rfl, rfl⟩
            go_wp2_with fail
            refine (HM.out _).mono ?_
            rintro e w4 ⟨rfl, rfl⟩
            go_wp2_with fail
            refine (HK.out _ HF.out).mono ?_
            rintro e w3 ⟨rfl, f3⟩
            have HF2 := Lib.hid (HF.out.trans f3 (fun _ _ q => q))
            clear f3
            go_wp2_with fail
            go_ret
            exact ⟨rfl, HF2.out⟩
end Go.Proofs.YtfonchobolhkoaaDoor
