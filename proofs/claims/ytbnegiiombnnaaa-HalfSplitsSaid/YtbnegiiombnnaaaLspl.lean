/- The law HalfSplits. -/
import Derived.Test.YtbnegiiombnnaaaRrow
import Derived.Test.YtbnegiiombnnaaaLaw
namespace Go.Proofs.Ytbnegiiombnnaaa
open Go.ChangeShapes Go.WideShapes Go.ChangeAt Go.RowKit

set_option maxRecDepth 100000 in
set_option maxHeartbeats 8000000 in
theorem splits_any {w : World} {A : Option Addr} {k cb : Nat} {b : List UInt8} (hr : Rd w A k b) (hk : k ≤ 9223372036854775807) (c : Nat) (hc : c < 18446744073709551616) (n : Int) (z : Int) :
    Calls Try.prog 3 #[.agg #[.int .u64 c, .int .i64 n], .slice A k cb, .int .i64 z] w fun e w' => e = .returned (.bool true) ∧ Fr (fun _ => False) w w' := by
  have HT0 : Hid (Blk (w.alloc (.cells #[.int .u64 (c : Nat), .int .i64 n] 24)) w.heap.size 24 #[.int .u64 (c : Nat), .int .i64 n]) := Lib.hid (Blk.new _ _ _)
  have HF0 : Hid (Fr (fun _ => False) w (w.alloc (.cells #[.int .u64 (c : Nat), .int .i64 n] 24))) := Lib.hid ((Fr.refl _ w).alloc _)
  have HR := Lib.hid hr
  have HC0 := Lib.hid hc
  have HLN := Lib.hid hr.len
  clear hr hc
  by_cases hbig : 40000 < k
  · have hd : decide ((40000 : Int) < (k : Int)) = true := by rw [decide_eq_true_eq]; omega
    clear hbig
    go_enter Try.func3, Try.ntmps3
    go_wp2_with fail
    refine (known_any _).mono ?_
    rintro e w2 ⟨rfl, hf2⟩
    have HF2 := Lib.hid (HF0.out.trans hf2 (fun _ _ q => q))
    clear hf2
    go_wp2_with fail
    go_ret
    exact ⟨rfl, HF2.out⟩
  · have hd : decide ((40000 : Int) < (k : Int)) = false := by rw [decide_eq_false_iff_not]; omega
    have hk4 : k ≤ 40000 := by omega
    clear hbig hk
    go_enter Try.func3, Try.ntmps3
    go_wp2_with (refine wpList_more rfl _ _ rfl (w.heap.size + 1) (.slice none 0 0) [] b rfl (World.ownsRow_nil _ _ _ _) A k cb rfl (HR.out.keep HF0.out (fun _ _ q => q)) (by simp; omega) (by simp) ?_; intro v7 w1 ho1 hg1 hat1; rw [List.nil_append] at ho1; obtain ⟨A7, c7, hv7, _, _⟩ := own_slice ho1; rw [HLN.out] at hv7; subst hv7; have hfa : Fr (fun _ => False) (w.alloc (.cells #[.int .u64 (c : Nat), .int .i64 n] 24)) w1 := (Fr.refl _ _).grown hg1 (fun j hj => by cases hj); have hb1 := HT0.out.keep hfa (fun q => q); have c0 := hb1.cell 0; have c1 := hb1.cell 1; simp at c0 c1; have H1 := Lib.hid (And.intro ho1 (And.intro (HF0.out.trans hfa (fun _ _ q => q)) hb1)); clear ho1 hg1 hat1 hfa hb1)
    refine (split_joint (bytes_rd2 H1.out.1 HLN.out) c n).mono ?_
    rintro e w2 ⟨A8, n8, c8, code, rfl, hsp, hf2⟩
    have H2 := Lib.hid (And.intro (cell_new c0 hf2) (And.intro (cell_new c1 hf2) (And.intro hsp (H1.out.2.1.trans hf2 (fun _ _ q => q)))))
    have hq1 : Rd w2 A7 k b := (bytes_rd2 H1.out.1 HLN.out).keep hf2 (fun _ _ q => q)
    have hq2 : Rd w2 A k b := HR.out.keep H2.out.2.2.2 (fun _ _ q => q)
    have HC : Hid (∀ w', Fr (fun _ => False) w2 w' → (convert 25 9 (.slice A7 k c7)).run Try.prog w' = .ok (.string ⟨b.toArray⟩) w' ∧ (convert 25 9 (.slice A k cb)).run Try.prog w' = .ok (.string ⟨b.toArray⟩) w') := Lib.hid fun w' hf =>
      ⟨conv_string (P := Try.prog) 25 9 5 (hq1.keep hf (fun _ _ q => q)) Try.underlying25 Try.underlying5 Try.underlying9, conv_string (P := Try.prog) 25 9 5 (hq2.keep hf (fun _ _ q => q)) Try.underlying25 Try.underlying5 Try.underlying9⟩
    clear hsp hf2 hq1 hq2 c0 c1 H1
    go_wp2_with fail
    refine wp_region_held_drew (S := fun w' => Fr (fun _ => False) w2 w') (by kernel_rfl) ((Fr.refl _ _).drew) (fun hS0 => ?_)
    refine anyH_take 0 22 (.agg #[.int .u64 (c : Nat), .int .i64 n]) rfl rfl (by kernel_rfl) (by kernel_rfl) (by kernel_rfl) (fun _ _ _ h => h) (.inl ⟨by rfl, fun w'' hS => by have q0 := cell_new H2.out.1 hS; have q1 := cell_new H2.out.2.1 hS; go_simp⟩) hS0 ?_
    (simp only [List.setIfInBounds_toArray, List.set_cons_zero, List.set_cons_succ])
    refine anyH_take 2 24 (.agg #[.int .u64 (c : Nat), .int .i64 n]) rfl rfl (by kernel_rfl) (by kernel_rfl) (by kernel_rfl) (fun _ _ _ h => h) (.inl ⟨by rfl, fun w'' hS => by have q0 := cell_new H2.out.1 hS; have q1 := cell_new H2.out.2.1 hS; go_simp⟩) hS0 ?_
    (simp only [List.setIfInBounds_toArray, List.set_cons_zero, List.set_cons_succ])
    refine anyH_one 1 23 (.bool (mayT c n)) (by kernel_rfl) (tame_call 23 rfl rfl (by rfl) (fun w'' hS => by go_simp) (fun w'' hS => ((may_any w'' c n).mono fun e w3 he => ⟨he.1, hS.trans he.2 (fun _ _ q => q)⟩))) hS0 (fun wa hS0 => ?_)
    (simp only [List.setIfInBounds_toArray, List.set_cons_zero, List.set_cons_succ])
    refine anyH_one 3 25 (.bool (mayT c n)) (by kernel_rfl) (tame_call 25 rfl rfl (by rfl) (fun w'' hS => by go_simp) (fun w'' hS => ((rmay_any w'' c n).mono fun e w3 he => ⟨he.1, hS.trans he.2 (fun _ _ q => q)⟩))) hS0 (fun wb hS0 => ?_)
    (simp only [List.setIfInBounds_toArray, List.set_cons_zero, List.set_cons_succ])
    refine anyH_take 4 26 (.bool false) rfl rfl (by kernel_rfl) (by kernel_rfl) (by kernel_rfl) (fun _ _ _ h => h) (.inl ⟨by rfl, fun w'' hS => by cases mayT c n <;> go_simp⟩) hS0 ?_
    (simp only [List.setIfInBounds_toArray, List.set_cons_zero, List.set_cons_succ])
    refine anyH_take 5 27 (.bool false) rfl rfl (by kernel_rfl) (by kernel_rfl) (by kernel_rfl) (fun _ _ _ h => h) (.inl ⟨by rfl, fun w'' hS => by go_simp⟩) hS0 ?_
    (simp only [List.setIfInBounds_toArray, List.set_cons_zero, List.set_cons_succ])
    refine anyH_take 6 28 (.int .i64 z) rfl rfl (by kernel_rfl) (by kernel_rfl) (by kernel_rfl) (fun _ _ _ h => h) (.inl ⟨by rfl, fun w'' hS => by go_simp⟩) hS0 ?_
    (simp only [List.setIfInBounds_toArray, List.set_cons_zero, List.set_cons_succ])
    refine anyH_take 8 30 (.int .i64 z) rfl rfl (by kernel_rfl) (by kernel_rfl) (by kernel_rfl) (fun _ _ _ h => h) (.inl ⟨by rfl, fun w'' hS => by go_simp⟩) hS0 ?_
    (simp only [List.setIfInBounds_toArray, List.set_cons_zero, List.set_cons_succ])
    refine anyH_one 7 29 (.int .i64 (needN z : Nat)) (by kernel_rfl) (tame_call 29 rfl rfl (by rfl) (fun w'' hS => by go_simp) (fun w'' hS => ((need_any w'' z).mono fun e w3 he => ⟨he.1, he.2 ▸ hS⟩))) hS0 (fun wc hS0 => ?_)
    (simp only [List.setIfInBounds_toArray, List.set_cons_zero, List.set_cons_succ])
    refine anyH_one 9 31 (.int .i64 (needN z : Nat)) (by kernel_rfl) (tame_call 31 rfl rfl (by rfl) (fun w'' hS => by go_simp) (fun w'' hS => ((rneed_any w'' z).mono fun e w3 he => ⟨he.1, he.2 ▸ hS⟩))) hS0 (fun wd hS0 => ?_)
    (simp only [List.setIfInBounds_toArray, List.set_cons_zero, List.set_cons_succ])
    refine anyH_take 10 32 (.bool false) rfl rfl (by kernel_rfl) (by kernel_rfl) (by kernel_rfl) (fun _ _ _ h => h) (.inl ⟨by rfl, fun w'' hS => by go_simp⟩) hS0 ?_
    (simp only [List.setIfInBounds_toArray, List.set_cons_zero, List.set_cons_succ])
    refine anyH_take 11 33 (.bool false) rfl rfl (by kernel_rfl) (by kernel_rfl) (by kernel_rfl) (fun _ _ _ h => h) (.inl ⟨by rfl, fun w'' hS => by go_simp⟩) hS0 ?_
    (simp only [List.setIfInBounds_toArray, List.set_cons_zero, List.set_cons_succ])
    refine anyH_take 12 34 (.bool false) rfl rfl (by kernel_rfl) (by kernel_rfl) (by kernel_rfl) (fun _ _ _ h => h) (.inl ⟨by rfl, fun w'' hS => by go_simp⟩) hS0 ?_
    (simp only [List.setIfInBounds_toArray, List.set_cons_zero, List.set_cons_succ])
    refine anyH_take 13 35 (.slice A k cb) rfl rfl (by kernel_rfl) (by kernel_rfl) (by kernel_rfl) (fun _ _ _ h => h) (.inl ⟨by rfl, fun w'' hS => by go_simp⟩) hS0 ?_
    (simp only [List.setIfInBounds_toArray, List.set_cons_zero, List.set_cons_succ])
    refine anyH_take 14 36 (.int .i64 (k : Nat)) rfl rfl (by kernel_rfl) (by kernel_rfl) (by kernel_rfl) (fun _ _ _ h => h) (.inl ⟨by rfl, fun w'' hS => by go_simp⟩) hS0 ?_
    (simp only [List.setIfInBounds_toArray, List.set_cons_zero, List.set_cons_succ])
    refine anyH_take 16 38 (.slice A k cb) rfl rfl (by kernel_rfl) (by kernel_rfl) (by kernel_rfl) (fun _ _ _ h => h) (.inl ⟨by rfl, fun w'' hS => by go_simp⟩) hS0 ?_
    (simp only [List.setIfInBounds_toArray, List.set_cons_zero, List.set_cons_succ])
    refine anyH_take 17 39 (.int .i64 (k : Nat)) rfl rfl (by kernel_rfl) (by kernel_rfl) (by kernel_rfl) (fun _ _ _ h => h) (.inl ⟨by rfl, fun w'' hS => by go_simp⟩) hS0 ?_
    (simp only [List.setIfInBounds_toArray, List.set_cons_zero, List.set_cons_succ])
    refine anyH_one 15 37 (.int .i64 (needN (k : Nat) : Nat)) (by kernel_rfl) (tame_call 37 rfl rfl (by rfl) (fun w'' hS => by go_simp) (fun w'' hS => ((need_any w'' (k : Nat)).mono fun e w3 he => ⟨he.1, he.2 ▸ hS⟩))) hS0 (fun we hS0 => ?_)
    (simp only [List.setIfInBounds_toArray, List.set_cons_zero, List.set_cons_succ])
    refine anyH_one 18 40 (.int .i64 (needN (k : Nat) : Nat)) (by kernel_rfl) (tame_call 40 rfl rfl (by rfl) (fun w'' hS => by go_simp) (fun w'' hS => ((rneed_any w'' (k : Nat)).mono fun e w3 he => ⟨he.1, he.2 ▸ hS⟩))) hS0 (fun wf hS0 => ?_)
    (simp only [List.setIfInBounds_toArray, List.set_cons_zero, List.set_cons_succ])
    refine anyH_take 19 41 (.bool false) rfl rfl (by kernel_rfl) (by kernel_rfl) (by kernel_rfl) (fun _ _ _ h => h) (.inl ⟨by rfl, fun w'' hS => by go_simp⟩) hS0 ?_
    (simp only [List.setIfInBounds_toArray, List.set_cons_zero, List.set_cons_succ])
    refine anyH_take 20 42 (.bool false) rfl rfl (by kernel_rfl) (by kernel_rfl) (by kernel_rfl) (fun _ _ _ h => h) (.inl ⟨by rfl, fun w'' hS => by go_simp⟩) hS0 ?_
    (simp only [List.setIfInBounds_toArray, List.set_cons_zero, List.set_cons_succ])
    refine anyH_take 21 43 (.bool false) rfl rfl (by kernel_rfl) (by kernel_rfl) (by kernel_rfl) (fun _ _ _ h => h) (.inl ⟨by rfl, fun w'' hS => by go_simp⟩) hS0 ?_
    (simp only [List.setIfInBounds_toArray, List.set_cons_zero, List.set_cons_succ])
    refine anyH_take 22 44 (.slice A7 k c7) rfl rfl (by kernel_rfl) (by kernel_rfl) (by kernel_rfl) (fun _ _ _ h => h) (.inl ⟨by rfl, fun w'' hS => by go_simp⟩) hS0 ?_
    (simp only [List.setIfInBounds_toArray, List.set_cons_zero, List.set_cons_succ])
    refine anyH_take 23 45 (.string ⟨b.toArray⟩) rfl rfl (by kernel_rfl) (by kernel_rfl) (by kernel_rfl) (fun _ _ _ h => h) (.inl ⟨by rfl, fun w'' hS => by have q0 := (HC.out w'' hS).1; go_simp⟩) hS0 ?_
    (simp only [List.setIfInBounds_toArray, List.set_cons_zero, List.set_cons_succ])
    refine anyH_take 24 46 (.slice A k cb) rfl rfl (by kernel_rfl) (by kernel_rfl) (by kernel_rfl) (fun _ _ _ h => h) (.inl ⟨by rfl, fun w'' hS => by go_simp⟩) hS0 ?_
    (simp only [List.setIfInBounds_toArray, List.set_cons_zero, List.set_cons_succ])
    refine anyH_take 25 47 (.string ⟨b.toArray⟩) rfl rfl (by kernel_rfl) (by kernel_rfl) (by kernel_rfl) (fun _ _ _ h => h) (.inl ⟨by rfl, fun w'' hS => by have q0 := (HC.out w'' hS).2; go_simp⟩) hS0 ?_
    (simp only [List.setIfInBounds_toArray, List.set_cons_zero, List.set_cons_succ])
    refine anyH_take 26 48 (.bool false) rfl rfl (by kernel_rfl) (by kernel_rfl) (by kernel_rfl) (fun _ _ _ h => h) (.inl ⟨by rfl, fun w'' hS => by go_simp⟩) hS0 ?_
    (simp only [List.setIfInBounds_toArray, List.set_cons_zero, List.set_cons_succ])
    refine anyH_take 27 49 (.bool false) rfl rfl (by kernel_rfl) (by kernel_rfl) (by kernel_rfl) (fun _ _ _ h => h) (.inl ⟨by rfl, fun w'' hS => by go_simp⟩) hS0 ?_
    (simp only [List.setIfInBounds_toArray, List.set_cons_zero, List.set_cons_succ])
    refine wpAnyH_done (by kernel_rfl) ?_ _
    have H3 := Lib.hid (And.intro H2.out.2.2.1 (And.intro H2.out.2.2.2 hS0))
    have HTg := Lib.hid (And.intro (cell_new H2.out.1 hS0) (cell_new H2.out.2.1 hS0))
    clear hS0 H2 HC
    generalize hwf : wf = w3 at *
    clear hwf
    have c0 := HTg.out.1
    have c1 := HTg.out.2
    go_wp2_with fail
    refine (rmay_any _ c n).mono ?_
    rintro e w4 ⟨rfl, hf4⟩
    have H4 := Lib.hid (And.intro H3.out.1 (And.intro (H3.out.2.1.trans (H3.out.2.2.trans hf4 (fun _ _ q => q)) (fun _ _ q => q)) (H3.out.2.2.trans hf4 (fun _ _ q => q))))
    have d0 := cell_new c0 hf4
    have d1 := cell_new c1 hf4
    clear hf4 H3 c0 c1 HTg
    rcases H4.out.1 with ⟨hm, hn8, hcd⟩ | ⟨hm, hkl, hn8, hcd⟩ | ⟨hm, hkl, hn8, hcd, hsv⟩
    · subst hcd hn8
      rw [hm]
      clear hm d0 d1
      go_wp2_with fail
      refine (known_any _).mono ?_
      rintro e w5 ⟨rfl, hf5⟩
      have H5 := Lib.hid (H4.out.2.1.trans hf5 (fun _ _ q => q))
      clear hf5
      go_wp2_with fail
      go_ret
      exact ⟨rfl, H5.out⟩
    · subst hcd hn8
      rw [hm]
      have hlong : decide ((32768 : Int) < (k : Int)) = true := by rw [decide_eq_true_eq]; have := HLN.out; omega
      clear hm d0 d1 hkl
      go_wp2_with fail
      refine (known_any _).mono ?_
      rintro e w5 ⟨rfl, hf5⟩
      have H5 := Lib.hid (H4.out.2.1.trans hf5 (fun _ _ q => q))
      clear hf5
      go_wp2_with fail
      go_ret
      exact ⟨rfl, H5.out⟩
    · subst hcd
      rw [hm]
      have hlong : decide ((32768 : Int) < (k : Int)) = false := by rw [decide_eq_false_iff_not]; have := HLN.out; omega
      have hnd : needN (k : Nat) = n8 := by rw [hn8, HLN.out]; simp [needN]; have := HLN.out; omega
      have hnn : ((n.toNat : Nat) : Int) = n := by unfold mayT at hm; simp at hm; omega
      have hm9 : c ≤ 18446744073709551615 ∧ n.toNat ≤ 9223372036854775807 := by unfold mayT at hm; simp at hm; omega
      have hk3 : k ≤ 32768 := by have := HLN.out; omega
      have hrk : Rd w4 A k b := HR.out.keep H4.out.2.1 (fun _ _ q => q)
      have hrow := fun w5 (hf : Fr (fun _ => False) w4 w5) => rrow_any (cb := cb) (hrk.keep hf (fun _ _ q => q)) hk3 c n.toNat hm9.1 hm9.2
      rw [hnn] at hrow
      have HRW := Lib.hid hrow
      have HSV := Lib.hid (And.intro hsv (And.intro hn8 hnd))
      clear hm hkl hn8 hnd hnn hm9 hk3 hrk hrow hsv
      go_wp2_with fail
      refine (rneed_any _ (k : Nat)).mono ?_
      rintro e w5 ⟨rfl, rfl⟩
      rw [HSV.out.2.2]
      go_wp2_with fail
      (with_reducible refine (HRW.out _ (Fr.refl _ _)).mono ?_)
      rintro e w6 ⟨v6, rfl, hs6, hf6⟩
      have hsa := HSV.out.1.new (H4.out.2.2.trans hf6 (fun _ _ q => q))
      have hke : (many k + 1) / 2 = n8 := by rw [← HLN.out]; exact HSV.out.2.1.symm
      rw [hke] at hs6
      have HSA := Lib.hid (same_any hsa hs6)
      have H6 := Lib.hid (H4.out.2.1.trans hf6 (fun _ _ q => q))
      clear hs6 hf6 hsa hke
      go_wp2_with fail
      (with_reducible refine HSA.out.mono ?_)
      rintro e w7 ⟨rfl, hf7⟩
      have H7 := Lib.hid (H6.out.trans hf7 (fun _ _ q => q))
      clear hf7
      go_wp2_with fail
      refine (known_any _).mono ?_
      rintro e w8 ⟨rfl, hf8⟩
      have H8 := Lib.hid (H7.out.trans hf8 (fun _ _ q => q))
      clear hf8
      go_wp2_with fail
      go_ret
      exact ⟨rfl, H8.out⟩
end Go.Proofs.Ytbnegiiombnnaaa
