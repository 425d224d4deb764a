/- The law WalBytes. -/
import Derived.Test.YtobnfadcffhfdaaVnd
import Derived.Test.YtobnfadcffhfdaaVle
namespace Go.Proofs.Ytobnfadcffhfdaa
open Go.RowKit

theorem recOf_512 {b : List UInt8} {r : List Chg} (h : recOf b = some r) : ∀ x ∈ r, x.p.length = 512 := by
  unfold recOf at h
  split at h
  · rename_i q
    injection h with h
    subst h
    exact chgs_512 (m := b.length / 516) (by have := q.1; omega) (Nat.le_refl _)
  · cases h
theorem mayR_ok {r : List Chg} (h : mayR r = true) : ∀ x ∈ r, okN x = true := by
  unfold mayR at h
  simp only [Bool.and_eq_true, List.all_eq_true] at h
  exact h.2.2
theorem rsame_same {w : World} {u v : Value} {r : List Chg} (hr : RcV w u r) (ht : RcV w v r) : Calls Try.prog 14 #[u, v] w fun e w' => e = .returned (.bool true) ∧ Fr (fun _ => False) w w' :=
  (rsame_any hr ht).mono fun e w' q => ⟨by rw [q.1]; simp, q.2⟩
theorem leaf_512 (xs : List Leaf) : ∀ x ∈ xs.map Leaf.chg, x.p.length = 512 := fun x hx => by
  obtain ⟨l, _, rfl⟩ := List.mem_map.1 hx
  exact pageOf_len _
set_option maxRecDepth 100000 in
set_option maxHeartbeats 8000000 in
theorem wbytes_any {w : World} {v : Value} {xs : List Leaf} (h : LvV w v xs) {A : Option Addr} {n c : Nat} {b : List UInt8} (hr : Rd w A n b) (hnc : n ≤ c) (hc : c ≤ maxLen) (z : Int) :
    Calls Try.prog 3 #[v, .slice A n c, .int .i64 z] w fun e w' => e = .returned (.bool true) ∧ Fr (fun _ => False) w w' := by
  have hn9 : n ≤ 9223372036854775807 := by simp only [maxLen] at hc; omega
  have HL := Lib.hid h
  obtain ⟨Av, cap, rfl, hl1, hl2, _⟩ := h
  have hm9 : xs.length ≤ 9223372036854775807 := by simp only [maxLen] at hl2; omega
  obtain ⟨m, hm⟩ : ∃ m, m = xs.length := ⟨_, rfl⟩
  have HM := Lib.hid hm
  rw [← hm] at HL hm9 ⊢
  clear hl1 hl2 hm hc
  have HF0 := Lib.hid (Fr.refl (fun _ => False) w)
  by_cases h70 : 70 < m
  · have g1 : (70 : Int) < (m : Int) := by omega
    have g2 : (m : Int) > 70 := g1
    clear h70
    go_enter Try.func3, Try.ntmps3
    go_wp2_with fail
    refine (known_any _).mono ?_
    rintro e wk ⟨rfl, fk⟩
    have HK := Lib.hid (HF0.out.trans fk (fun _ _ q => q))
    clear fk
    go_wp2_with fail
    go_ret
    exact ⟨rfl, HK.out⟩
  by_cases h40 : 40000 < n
  · have g0 : ¬ (m : Int) > 70 := by omega
    have g0' : ¬ 70 < (m : Int) := by omega
    have g1 : (40000 : Int) < (n : Int) := by omega
    have g2 : (n : Int) > 40000 := g1
    clear h70 h40
    go_enter Try.func3, Try.ntmps3
    go_wp2_with fail
    refine (known_any _).mono ?_
    rintro e wk ⟨rfl, fk⟩
    have HK := Lib.hid (HF0.out.trans fk (fun _ _ q => q))
    clear fk
    go_wp2_with fail
    go_ret
    exact ⟨rfl, HK.out⟩
  have HB := Lib.hid (And.intro hr (And.intro hnc (show n ≤ 40000 by omega)))
  have g0 : ¬ (m : Int) > 70 := by omega
  have g0' : ¬ 70 < (m : Int) := by omega
  have g1 : ¬ (40000 : Int) < (n : Int) := by omega
  have g2 : ¬ (n : Int) > 40000 := g1
  have HMM : Hid (m ≤ 70) := Lib.hid (by omega)
  clear hr hnc h70 h40
  go_enter Try.func3, Try.ntmps3
  go_wp2_with fail
  refine (record_any HL.out (by have := HM.out; have := HMM.out; omega)).mono ?_
  rintro e w1 ⟨v1, rfl, ho1, f1⟩
  obtain ⟨r, hr⟩ : ∃ r, r = xs.map Leaf.chg := ⟨_, rfl⟩
  have hr5 := leaf_512 xs
  rw [← hr] at ho1 hr5
  clear hr
  have H1 := Lib.hid (And.intro (rcV_of_own ho1 hr5) (And.intro f1 hr5))
  clear ho1 f1 hr5
  cases hm : mayR r with
  | false =>
    have HMR := Lib.hid hm
    clear hm
    go_wp2_with fail
    refine (bytes_any H1.out.1).mono ?_
    rintro e w2 ⟨q1, _, f2⟩
    obtain rfl := q1 HMR.out
    have H2 := Lib.hid (H1.out.2.1.trans f2 (fun _ _ q => q))
    have H2v := Lib.hid (H1.out.1.new f2)
    clear q1 f2 H1
    go_wp2_with fail
    refine (wneed_any w2 z).mono ?_
    rintro e w2a ⟨rfl, rfl⟩
    go_wp2_with fail
    refine (fneed_any w2 z).mono ?_
    rintro e w2a ⟨rfl, rfl⟩
    go_wp2_with fail
    refine (fmay_any H2v.out).mono ?_
    rintro e w2a ⟨rfl, rfl⟩
    rw [HMR.out]
    clear H2v
    have HO := Lib.hid (of_any (HB.out.1.keep H2.out (fun _ _ q => q)) HB.out.2.1 (by have := HB.out.2.2; omega))
    rcases hrec : recOf b with _ | rr
    · have HRN := Lib.hid hrec
      rw [hrec] at HO
      clear hrec
      go_wp2_with fail
      refine HO.out.mono ?_
      rintro e wa ⟨q1, _, fa⟩
      obtain rfl := q1 rfl
      have HFa := Lib.hid (H2.out.trans fa (fun _ _ q => q))
      clear q1 fa HO
      go_wp2_with fail
      refine (fof_any (HB.out.1.keep HFa.out (fun _ _ q => q)) HB.out.2.2 HB.out.2.1).mono ?_
      rintro e wb ⟨q1, _, fb⟩
      obtain rfl := q1 HRN.out
      have HFb := Lib.hid (HFa.out.trans fb (fun _ _ q => q))
      clear q1 fb
      go_wp2_with fail
      refine (rsame_same (RcV.nil _) (RcV.nil _)).mono ?_
      rintro e wc ⟨rfl, fc⟩
      have HFc := Lib.hid (HFb.out.trans fc (fun _ _ q => q))
      clear fc
      go_wp2_with fail
      refine (known_any _).mono ?_
      rintro e wk ⟨rfl, fk⟩
      have HK := Lib.hid (HFc.out.trans fk (fun _ _ q => q))
      clear fk
      go_wp2_with fail
      go_ret
      exact ⟨rfl, HK.out⟩
    · have HRN := Lib.hid hrec
      rw [hrec] at HO
      clear hrec
      go_wp2_with fail
      refine HO.out.mono ?_
      rintro e wa ⟨_, q2, fa⟩
      obtain ⟨va, rfl, ha, _⟩ := q2 rr rfl
      have HFa := Lib.hid (H2.out.trans fa (fun _ _ q => q))
      have HVa := Lib.hid ha
      clear q2 fa HO ha
      go_wp2_with fail
      refine (fof_any (HB.out.1.keep HFa.out (fun _ _ q => q)) HB.out.2.2 HB.out.2.1).mono ?_
      rintro e wb ⟨_, q2, fb⟩
      obtain ⟨vb, rfl, hvb⟩ := q2 rr HRN.out
      have HFb := Lib.hid (HFa.out.trans fb (fun _ _ q => q))
      have HS := Lib.hid (rsame_same (HVa.out.new fb) (rcV_of_own hvb (recOf_512 HRN.out)))
      clear q2 fb hvb
      go_wp2_with fail
      refine HS.out.mono ?_
      rintro e wc ⟨rfl, fc⟩
      have HFc := Lib.hid (HFb.out.trans fc (fun _ _ q => q))
      clear fc
      go_wp2_with fail
      refine (known_any _).mono ?_
      rintro e wk ⟨rfl, fk⟩
      have HK := Lib.hid (HFc.out.trans fk (fun _ _ q => q))
      clear fk
      go_wp2_with fail
      go_ret
      exact ⟨rfl, HK.out⟩
  | true =>
    have HMR := Lib.hid hm
    clear hm
    go_wp2_with fail
    refine (bytes_any H1.out.1).mono ?_
    rintro e w2 ⟨_, q2, f2⟩
    obtain ⟨A2, c2, rfl, hr2, hc2⟩ := q2 HMR.out
    have hl60 := mayR_len HMR.out
    have hlb : (bytesR r).length = r.length * 516 := bytesR_len H1.out.2.2
    have H2 := Lib.hid (H1.out.2.1.trans f2 (fun _ _ q => q))
    have HO2 := Lib.hid (of_any hr2 hc2 (by omega))
    rw [recOf_bytesR HMR.out H1.out.2.2] at HO2
    obtain ⟨L, hL⟩ : ∃ L, L = (bytesR r).length := ⟨_, rfl⟩
    rw [← hL] at hr2 HO2 hlb ⊢
    have hL9 : L ≤ 9223372036854775807 := by omega
    have H2v := Lib.hid (And.intro (H1.out.1.new f2) (And.intro hr2 (And.intro hL (And.intro hl60 H1.out.2.2))))
    clear q2 f2 H1 hr2 hc2 hl60 hlb hL
    go_wp2_with fail
    refine (wneed_any w2 z).mono ?_
    rintro e w2a ⟨rfl, rfl⟩
    go_wp2_with fail
    refine (fneed_any w2 z).mono ?_
    rintro e w2a ⟨rfl, rfl⟩
    go_wp2_with fail
    refine (fmay_any H2v.out.1).mono ?_
    rintro e w2a ⟨rfl, rfl⟩
    rw [HMR.out]
    go_wp2_with fail
    refine HO2.out.mono ?_
    rintro e w3 ⟨_, q2, f3⟩
    obtain ⟨v3, rfl, hv3, _⟩ := q2 r rfl
    have H3 := Lib.hid (H2.out.trans f3 (fun _ _ q => q))
    have H3v := Lib.hid (And.intro (H2v.out.1.new f3) (And.intro (H2v.out.2.1.keep f3 (fun _ _ q => q)) hv3))
    have HC : Hid (∀ w', Fr (fun _ => False) w3 w' → (convert 23 9 (.slice A2 L c2)).run Try.prog w' = .ok (.string ⟨(bytesR r).toArray⟩) w') := Lib.hid fun w' hf =>
      conv_string (P := Try.prog) 23 9 5 (H3v.out.2.1.keep hf (fun _ _ q => q)) Try.underlying23 Try.underlying5 Try.underlying9
    clear q2 f3 hv3 HO2 H2
    go_wp2_with fail
    refine wp_region_held_drew (S := fun w' => Fr (fun _ => False) w3 w') (by kernel_rfl) ((Fr.refl _ _).drew) (fun hS0 => ?_)
    refine anyH_take 0 52 (.int .i64 0) rfl rfl (by kernel_rfl) (by kernel_rfl) (by kernel_rfl) (fun _ _ _ h => h) (.inl ⟨by rfl, fun w'' hS => by go_simp⟩) hS0 ?_
    (simp only [List.setIfInBounds_toArray, List.set_cons_zero, List.set_cons_succ])
    refine anyH_take 1 53 (.bool false) rfl rfl (by kernel_rfl) (by kernel_rfl) (by kernel_rfl) (fun _ _ _ h => h) (.inl ⟨by rfl, fun w'' hS => by go_simp⟩) hS0 ?_
    (simp only [List.setIfInBounds_toArray, List.set_cons_zero, List.set_cons_succ])
    refine anyH_take 2 54 (.bool false) rfl rfl (by kernel_rfl) (by kernel_rfl) (by kernel_rfl) (fun _ _ _ h => h) (.inl ⟨by rfl, fun w'' hS => by go_simp⟩) hS0 ?_
    (simp only [List.setIfInBounds_toArray, List.set_cons_zero, List.set_cons_succ])
    refine anyH_take 3 55 (.int .i64 0) rfl rfl (by kernel_rfl) (by kernel_rfl) (by kernel_rfl) (fun _ _ _ h => h) (.inl ⟨by rfl, fun w'' hS => by go_simp⟩) hS0 ?_
    (simp only [List.setIfInBounds_toArray, List.set_cons_zero, List.set_cons_succ])
    refine anyH_take 4 56 (.bool false) rfl rfl (by kernel_rfl) (by kernel_rfl) (by kernel_rfl) (fun _ _ _ h => h) (.inl ⟨by rfl, fun w'' hS => by go_simp⟩) hS0 ?_
    (simp only [List.setIfInBounds_toArray, List.set_cons_zero, List.set_cons_succ])
    refine anyH_take 5 57 (.bool false) rfl rfl (by kernel_rfl) (by kernel_rfl) (by kernel_rfl) (fun _ _ _ h => h) (.inl ⟨by rfl, fun w'' hS => by go_simp⟩) hS0 ?_
    (simp only [List.setIfInBounds_toArray, List.set_cons_zero, List.set_cons_succ])
    refine anyH_take 6 58 (.bool false) rfl rfl (by kernel_rfl) (by kernel_rfl) (by kernel_rfl) (fun _ _ _ h => h) (.inl ⟨by rfl, fun w'' hS => by go_simp⟩) hS0 ?_
    (simp only [List.setIfInBounds_toArray, List.set_cons_zero, List.set_cons_succ])
    refine anyH_take 7 59 (.slice A2 L c2) rfl rfl (by kernel_rfl) (by kernel_rfl) (by kernel_rfl) (fun _ _ _ h => h) (.inl ⟨by rfl, fun w'' hS => by go_simp⟩) hS0 ?_
    (simp only [List.setIfInBounds_toArray, List.set_cons_zero, List.set_cons_succ])
    refine anyH_take 8 60 (.string ⟨(bytesR r).toArray⟩) rfl rfl (by kernel_rfl) (by kernel_rfl) (by kernel_rfl) (fun _ _ _ h => h) (.inl ⟨by rfl, fun w'' hS => by have q0 := HC.out w'' hS; go_simp⟩) hS0 ?_
    (simp only [List.setIfInBounds_toArray, List.set_cons_zero, List.set_cons_succ])
    refine anyH_take 9 61 v1 rfl rfl (by kernel_rfl) (by kernel_rfl) (by kernel_rfl) (fun _ _ _ h => h) (.inl ⟨by rfl, fun w'' hS => by go_simp⟩) hS0 ?_
    (simp only [List.setIfInBounds_toArray, List.set_cons_zero, List.set_cons_succ])
    refine anyH_enter 10 62 (f := 13) (args := #[v1]) (by kernel_rfl) rfl rfl (by rfl) (by go_simp) ?_
    refine (fbytes_any (H3v.out.1.new hS0) H2v.out.2.2.2.1.2 (mayR_ok HMR.out)).mono ?_
    rintro e w4 ⟨A4, c4, rfl, hr4, f4⟩
    have g4 : Fr (fun _ => False) w3 w4 := hS0.trans f4 (fun _ _ q => q)
    refine ⟨_, rfl, g4, ?_⟩
    (simp only [List.setIfInBounds_toArray, List.set_cons_zero, List.set_cons_succ])
    have HC4 : Hid (∀ w', Fr (fun _ => False) w4 w' → (convert 23 9 (.slice A4 (bytesR r).length c4)).run Try.prog w' = .ok (.string ⟨(bytesR r).toArray⟩) w') := Lib.hid fun w' hf =>
      conv_string (P := Try.prog) 23 9 5 (hr4.keep hf (fun _ _ q => q)) Try.underlying23 Try.underlying5 Try.underlying9
    refine anyH_value 11 63 (.string ⟨(bytesR r).toArray⟩) w4 (by kernel_rfl) rfl rfl (by rfl) (by have q := HC4.out w4 (Fr.refl _ _); go_simp) g4 ?_
    (simp only [List.setIfInBounds_toArray, List.set_cons_zero, List.set_cons_succ])
    clear hS0
    have hS0 := g4
    refine anyH_take 12 64 (.bool false) rfl rfl (by kernel_rfl) (by kernel_rfl) (by kernel_rfl) (fun _ _ _ h => h) (.inl ⟨by rfl, fun w'' hS => by go_simp⟩) hS0 ?_
    (simp only [List.setIfInBounds_toArray, List.set_cons_zero, List.set_cons_succ])
    refine anyH_take 13 65 (.bool false) rfl rfl (by kernel_rfl) (by kernel_rfl) (by kernel_rfl) (fun _ _ _ h => h) (.inl ⟨by rfl, fun w'' hS => by go_simp⟩) hS0 ?_
    (simp only [List.setIfInBounds_toArray, List.set_cons_zero, List.set_cons_succ])
    refine anyH_take 14 66 (.bool false) rfl rfl (by kernel_rfl) (by kernel_rfl) (by kernel_rfl) (fun _ _ _ h => h) (.inl ⟨by rfl, fun w'' hS => by go_simp⟩) hS0 ?_
    (simp only [List.setIfInBounds_toArray, List.set_cons_zero, List.set_cons_succ])
    refine anyH_take 15 67 v3 rfl rfl (by kernel_rfl) (by kernel_rfl) (by kernel_rfl) (fun _ _ _ h => h) (.inl ⟨by rfl, fun w'' hS => by go_simp⟩) hS0 ?_
    (simp only [List.setIfInBounds_toArray, List.set_cons_zero, List.set_cons_succ])
    refine anyH_take 16 68 v1 rfl rfl (by kernel_rfl) (by kernel_rfl) (by kernel_rfl) (fun _ _ _ h => h) (.inl ⟨by rfl, fun w'' hS => by go_simp⟩) hS0 ?_
    (simp only [List.setIfInBounds_toArray, List.set_cons_zero, List.set_cons_succ])
    refine anyH_enter 17 69 (f := 14) (args := #[v3, v1]) (by kernel_rfl) rfl rfl (by rfl) (by go_simp) ?_
    refine (rsame_same (H3v.out.2.2.new g4) (H3v.out.1.new g4)).mono ?_
    rintro e w5 ⟨rfl, f5⟩
    have g5 : Fr (fun _ => False) w3 w5 := g4.trans f5 (fun _ _ q => q)
    refine ⟨_, rfl, g5, ?_⟩
    (simp only [List.setIfInBounds_toArray, List.set_cons_zero, List.set_cons_succ])
    clear hS0
    have hS0 := g5
    refine anyH_take 18 70 (.bool false) rfl rfl (by kernel_rfl) (by kernel_rfl) (by kernel_rfl) (fun _ _ _ h => h) (.inl ⟨by rfl, fun w'' hS => by go_simp⟩) hS0 ?_
    (simp only [List.setIfInBounds_toArray, List.set_cons_zero, List.set_cons_succ])
    refine anyH_take 19 71 (.bool false) rfl rfl (by kernel_rfl) (by kernel_rfl) (by kernel_rfl) (fun _ _ _ h => h) (.inl ⟨by rfl, fun w'' hS => by go_simp⟩) hS0 ?_
    (simp only [List.setIfInBounds_toArray, List.set_cons_zero, List.set_cons_succ])
    refine wpAnyH_done (by kernel_rfl) ?_ _
    have H5 := Lib.hid (H3.out.trans g5 (fun _ _ q => q))
    clear hS0 g5 g4 f5 f4 hr4 HC4 HC H3 H3v
    have HO := Lib.hid (of_any (HB.out.1.keep H5.out (fun _ _ q => q)) HB.out.2.1 (by have := HB.out.2.2; omega))
    rcases hrec : recOf b with _ | rr
    · have HRN := Lib.hid hrec
      rw [hrec] at HO
      clear hrec
      go_wp2_with fail
      refine HO.out.mono ?_
      rintro e wa ⟨q1, _, fa⟩
      obtain rfl := q1 rfl
      have HFa := Lib.hid (H5.out.trans fa (fun _ _ q => q))
      clear q1 fa HO
      go_wp2_with fail
      refine (fof_any (HB.out.1.keep HFa.out (fun _ _ q => q)) HB.out.2.2 HB.out.2.1).mono ?_
      rintro e wb ⟨q1, _, fb⟩
      obtain rfl := q1 HRN.out
      have HFb := Lib.hid (HFa.out.trans fb (fun _ _ q => q))
      clear q1 fb
      go_wp2_with fail
      refine (rsame_same (RcV.nil _) (RcV.nil _)).mono ?_
      rintro e wc ⟨rfl, fc⟩
      have HFc := Lib.hid (HFb.out.trans fc (fun _ _ q => q))
      clear fc
      go_wp2_with fail
      refine (known_any _).mono ?_
      rintro e wk ⟨rfl, fk⟩
      have HK := Lib.hid (HFc.out.trans fk (fun _ _ q => q))
      clear fk
      go_wp2_with fail
      go_ret
      exact ⟨rfl, HK.out⟩
    · have HRN := Lib.hid hrec
      rw [hrec] at HO
      clear hrec
      go_wp2_with fail
      refine HO.out.mono ?_
      rintro e wa ⟨_, q2, fa⟩
      obtain ⟨va, rfl, ha, _⟩ := q2 rr rfl
      have HFa := Lib.hid (H5.out.trans fa (fun _ _ q => q))
      have HVa := Lib.hid ha
      clear q2 fa HO ha
      go_wp2_with fail
      refine (fof_any (HB.out.1.keep HFa.out (fun _ _ q => q)) HB.out.2.2 HB.out.2.1).mono ?_
      rintro e wb ⟨_, q2, fb⟩
      obtain ⟨vb, rfl, hvb⟩ := q2 rr HRN.out
      have HFb := Lib.hid (HFa.out.trans fb (fun _ _ q => q))
      have HS := Lib.hid (rsame_same (HVa.out.new fb) (rcV_of_own hvb (recOf_512 HRN.out)))
      clear q2 fb hvb
      go_wp2_with fail
      refine HS.out.mono ?_
      rintro e wc ⟨rfl, fc⟩
      have HFc := Lib.hid (HFb.out.trans fc (fun _ _ q => q))
      clear fc
      go_wp2_with fail
      refine (known_any _).mono ?_
      rintro e wk ⟨rfl, fk⟩
      have HK := Lib.hid (HFc.out.trans fk (fun _ _ q => q))
      clear fk
      go_wp2_with fail
      go_ret
      exact ⟨rfl, HK.out⟩
end Go.Proofs.Ytobnfadcffhfdaa
