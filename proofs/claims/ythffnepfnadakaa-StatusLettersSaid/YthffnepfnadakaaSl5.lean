/- The law StatusLetters, of what status' calls answer. -/
import Derived.Test.YthffnepfnadakaaSl1
namespace Go.Proofs.Ythffnepfnadakaa
open Go.RowKit

theorem letB_len (k : Nat) : (letB k).length ≤ 1 := by unfold letB; rw [List.length_take]; omega
set_option maxRecDepth 100000 in
set_option maxHeartbeats 4000000 in
theorem sletters (P : StatusP) (a : Int) (s : ByteArray) (w : World) (hvk : Mok w) : Calls Try.prog 7 #[.int .i64 a, .string s] w (Tru w) := by
  have HK := Lib.hid (fun W => sknown P W)
  by_cases h1 : 100 < s.size
  · have h1i : (100 : Int) < (s.size : Int) := by omega
    clear h1 hvk
    go_enter Try.func7, Try.ntmps7
    go_wp2_with fail
    refine (HK.out _).mono ?_
    rintro e wk ⟨rfl, fk⟩
    have HFK := Lib.hid (fk)
    clear fk
    go_wp2_with fail
    go_ret
    exact ⟨rfl, HFK.out⟩
  · have h1i : ¬ (100 : Int) < (s.size : Int) := by omega
    obtain ⟨N2, hN⟩ : ∃ N, N = ofSN s.data.toList := ⟨_, rfl⟩
    obtain ⟨E2, hE⟩ : ∃ E, E = ofSE s.data.toList := ⟨_, rfl⟩
    have HPS := Lib.hid (fun W (fk : Fr (fun _ => False) w W) => P.of_ s W (hvk.keep fk) (by omega))
    rw [← hN, ← hE] at HPS
    have HN := Lib.hid (And.intro hN hE)
    have HRM := Lib.hid (rmays_any a)
    have HRK := Lib.hid (fun (z : Int) W => rletter_any z W)
    have HRL := Lib.hid (fun W => rletter_any a W)
    have hlet := letA_list a
    obtain ⟨t, ht⟩ : ∃ t, t = letA a := ⟨_, rfl⟩
    rw [← ht] at hlet HRL
    have htz : t.size ≤ 1000 := by
      rw [size_lst, hlet]
      unfold letterS
      split
      · have := letB_len a.toNat; omega
      · simp
    have HPL : Hid (∀ W, Calls Try.prog 22 #[.int .i64 a] W fun e w' => e = .returned (.string t) ∧ Fr (fun _ => False) W w') := Lib.hid (fun W => (P.letter a W).mono fun e w' he => by
      obtain ⟨t', e1, e2, e3⟩ := he
      refine ⟨?_, e3⟩
      rw [e1]
      congr 2
      apply ByteArray.ext
      apply Array.toList_inj.1
      rw [e2, hlet])
    have HPO := Lib.hid (fun W (fk : Fr (fun _ => False) w W) => P.of_ t W (hvk.keep fk) htz)
    rw [hlet, (of_letter a).1, (of_letter a).2] at HPO
    have htt : (t.toList == t.toList) = true := by simp
    have htn : (t.toList != t.toList) = false := by simp
    have HLE : Hid (∀ k : Nat, 1 ≤ k → k ≤ 9 → ((letA (k : Int)).toList == s.toList) = decide (letB k = s.data.toList)) := Lib.hid (fun k q1 q2 => by
      rw [ByteArray.toList_eq, ByteArray.toList_eq, letA_list]
      unfold letterS
      rw [show mayS (k : Int) = true from decide_eq_true (by omega), if_pos rfl, Int.toNat_natCast]
      by_cases h : letB k = s.data.toList
      · rw [h]; simp
      · rw [decide_eq_false h]; simpa using h)
    clear h1 hN hE hlet ht htz hvk
    cases hm : mayS a with
    | false =>
      rw [hm] at HRM HPO
      simp only [Bool.false_eq_true, if_false] at HPO
      clear hm
      go_enter Try.func7, Try.ntmps7
      go_wp2_with fail
      refine (HPL.out _).mono ?_
      rintro e w1 ⟨rfl, f1⟩
      have HF1 := Lib.hid ((Fr.refl (fun _ => False) w).trans f1 (fun _ _ q => q))
      clear f1
      go_wp2_with fail
      refine (HPO.out _ HF1.out).mono ?_
      rintro e w2 ⟨rfl, f2⟩
      have HF2 := Lib.hid (HF1.out.trans f2 (fun _ _ q => q))
      clear f2
      go_wp2_with fail
      refine (HRL.out _).mono ?_
      rintro e w3 ⟨rfl, f3⟩
      have HF3 := Lib.hid (HF2.out.trans f3 (fun _ _ q => q))
      clear f3
      go_wp2_with fail
      refine (HRM.out _).mono ?_
      rintro e w' ⟨rfl, rfl⟩
      go_wp2_with fail
      refine (HRM.out _).mono ?_
      rintro e w' ⟨rfl, rfl⟩
      go_wp2_with fail
      refine (HPS.out _ HF3.out).mono ?_
      rintro e w4 ⟨rfl, f4⟩
      have HF4 := Lib.hid (HF3.out.trans f4 (fun _ _ q => q))
      clear f4
      go_wp2_with fail
      have HFK := HF4
      go_loopw [10] (fun x wq => ∃ k : Nat, x = .int .i64 k ∧ 1 ≤ k ∧ k ≤ 10 ∧ Hid (∀ j, 1 ≤ j → j < k → letB j ≠ s.data.toList) ∧ Hid (Fr (fun _ => False) w wq)) (fun x _ => 10 - (intOf x).toNat)
      case atStart => exact ⟨1, rfl, by omega, by omega, Lib.hid (fun j h1 h2 => absurd h1 (by omega)), HFK⟩
      case round =>
        clear HFK HF4
        obtain ⟨k, rfl, hk1, hk2, HB, HF⟩ := hrel
        by_cases hk : k ≤ 9
        · have hki : (k : Int) ≤ 9 := by omega
          have hk0 : (1 : Int) ≤ (k : Int) := by omega
          have HLK := Lib.hid (HRK.out (k : Int))
          have hE := HLE.out k hk1 hk
          have HKK := Lib.hid (And.intro hk1 hk)
          by_cases hq : letB k = s.data.toList
          · rw [decide_eq_true hq] at hE
            have ho := of_at hk1 hk hq HB.out
            rw [← HN.out.1, ← HN.out.2] at ho
            obtain ⟨rfl, rfl⟩ := ho
            have hNN : ((N2 : Int) == (N2 : Int)) = true := by simp
            have hNn : (N2 == N2) = true := by simp
            clear hq hk1 hk2 hk HB
            go_wp2_with fail
            refine (HLK.out _).mono ?_
            rintro e w5 ⟨rfl, f5⟩
            have HF5 := Lib.hid (HF.out.trans f5 (fun _ _ q => q))
            clear f5
            go_wp2_with fail
            refine (HK.out _).mono ?_
            rintro e wk ⟨rfl, fk⟩
            have HFK := Lib.hid (HF5.out.trans fk (fun _ _ q => q))
            clear fk
            go_wp2_with fail
            go_ret
            exact ⟨rfl, HFK.out⟩
          · rw [decide_eq_false hq] at hE
            have HB2 : Hid (∀ j, 1 ≤ j → j < k + 1 → letB j ≠ s.data.toList) := Lib.hid (fun j h1 h2 => by
              rcases Nat.lt_or_ge j k with h | h
              · exact HB.out j h1 h
              · obtain rfl : j = k := by omega
                exact hq)
            clear hq hk1 hk2 hk HB
            go_wp2_with fail
            refine (HLK.out _).mono ?_
            rintro e w5 ⟨rfl, f5⟩
            have HF5 := Lib.hid (HF.out.trans f5 (fun _ _ q => q))
            clear f5
            go_wp2_with fail
            refine ⟨⟨k + 1, by go_num, by omega, by have := HKK.out.2; omega, HB2, HF5⟩, ?_⟩
            simp [intOf]
            have := HKK.out.2
            omega
        · obtain rfl : k = 10 := by omega
          have ho := of_none HB.out
          rw [← HN.out.1, ← HN.out.2] at ho
          obtain ⟨rfl, rfl⟩ := ho
          clear hk hk1 hk2 HB
          go_wp2_with fail
          refine (HK.out _).mono ?_
          rintro e wk ⟨rfl, fk⟩
          have HFK := Lib.hid (HF.out.trans fk (fun _ _ q => q))
          clear fk
          go_wp2_with fail
          go_ret
          exact ⟨rfl, HFK.out⟩
    | true =>
      rw [hm] at HRM HPO
      simp only [if_true] at HPO
      have hr : 1 ≤ a ∧ a ≤ 9 := of_decide_eq_true hm
      rw [show ((a.toNat : Nat) : Int) = a by omega] at HPO
      have haa : (a == a) = true := by simp
      have han : (a != a) = false := by simp
      clear hm hr
      go_enter Try.func7, Try.ntmps7
      go_wp2_with fail
      refine (HPL.out _).mono ?_
      rintro e w1 ⟨rfl, f1⟩
      have HF1 := Lib.hid ((Fr.refl (fun _ => False) w).trans f1 (fun _ _ q => q))
      clear f1
      go_wp2_with fail
      refine (HPO.out _ HF1.out).mono ?_
      rintro e w2 ⟨rfl, f2⟩
      have HF2 := Lib.hid (HF1.out.trans f2 (fun _ _ q => q))
      clear f2
      go_wp2_with fail
      refine (HRL.out _).mono ?_
      rintro e w3 ⟨rfl, f3⟩
      have HF3 := Lib.hid (HF2.out.trans f3 (fun _ _ q => q))
      clear f3
      go_wp2_with fail
      refine (HRM.out _).mono ?_
      rintro e w' ⟨rfl, rfl⟩
      go_wp2_with fail
      refine (HRM.out _).mono ?_
      rintro e w' ⟨rfl, rfl⟩
      go_wp2_with fail
      refine (HPS.out _ HF3.out).mono ?_
      rintro e w4 ⟨rfl, f4⟩
      have HF4 := Lib.hid (HF3.out.trans f4 (fun _ _ q => q))
      clear f4
      go_wp2_with fail
      have HFK := HF4
      go_loopw [10] (fun x wq => ∃ k : Nat, x = .int .i64 k ∧ 1 ≤ k ∧ k ≤ 10 ∧ Hid (∀ j, 1 ≤ j → j < k → letB j ≠ s.data.toList) ∧ Hid (Fr (fun _ => False) w wq)) (fun x _ => 10 - (intOf x).toNat)
      case atStart => exact ⟨1, rfl, by omega, by omega, Lib.hid (fun j h1 h2 => absurd h1 (by omega)), HFK⟩
      case round =>
        clear HFK HF4
        obtain ⟨k, rfl, hk1, hk2, HB, HF⟩ := hrel
        by_cases hk : k ≤ 9
        · have hki : (k : Int) ≤ 9 := by omega
          have hk0 : (1 : Int) ≤ (k : Int) := by omega
          have HLK := Lib.hid (HRK.out (k : Int))
          have hE := HLE.out k hk1 hk
          have HKK := Lib.hid (And.intro hk1 hk)
          by_cases hq : letB k = s.data.toList
          · rw [decide_eq_true hq] at hE
            have ho := of_at hk1 hk hq HB.out
            rw [← HN.out.1, ← HN.out.2] at ho
            obtain ⟨rfl, rfl⟩ := ho
            have hNN : ((N2 : Int) == (N2 : Int)) = true := by simp
            have hNn : (N2 == N2) = true := by simp
            clear hq hk1 hk2 hk HB
            go_wp2_with fail
            refine (HLK.out _).mono ?_
            rintro e w5 ⟨rfl, f5⟩
            have HF5 := Lib.hid (HF.out.trans f5 (fun _ _ q => q))
            clear f5
            go_wp2_with fail
            refine (HK.out _).mono ?_
            rintro e wk ⟨rfl, fk⟩
            have HFK := Lib.hid (HF5.out.trans fk (fun _ _ q => q))
            clear fk
            go_wp2_with fail
            go_ret
            exact ⟨rfl, HFK.out⟩
          · rw [decide_eq_false hq] at hE
            have HB2 : Hid (∀ j, 1 ≤ j → j < k + 1 → letB j ≠ s.data.toList) := Lib.hid (fun j h1 h2 => by
              rcases Nat.lt_or_ge j k with h | h
              · exact HB.out j h1 h
              · obtain rfl : j = k := by omega
                exact hq)
            clear hq hk1 hk2 hk HB
            go_wp2_with fail
            refine (HLK.out _).mono ?_
            rintro e w5 ⟨rfl, f5⟩
            have HF5 := Lib.hid (HF.out.trans f5 (fun _ _ q => q))
            clear f5
            go_wp2_with fail
            refine ⟨⟨k + 1, by go_num, by omega, by have := HKK.out.2; omega, HB2, HF5⟩, ?_⟩
            simp [intOf]
            have := HKK.out.2
            omega
        · obtain rfl : k = 10 := by omega
          have ho := of_none HB.out
          rw [← HN.out.1, ← HN.out.2] at ho
          obtain ⟨rfl, rfl⟩ := ho
          clear hk hk1 hk2 HB
          go_wp2_with fail
          refine (HK.out _).mono ?_
          rintro e wk ⟨rfl, fk⟩
          have HFK := Lib.hid (HF.out.trans fk (fun _ _ q => q))
          clear fk
          go_wp2_with fail
          go_ret
          exact ⟨rfl, HFK.out⟩
end Go.Proofs.Ythffnepfnadakaa
