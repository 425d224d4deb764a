/- The law NumberApart, of what number's calls answer. -/
import Derived.Test.YtchofmncinbmcaaNst
namespace Go.Proofs.Ytchofmncinbmcaa
open Go.RowKit

set_option maxRecDepth 100000 in
set_option maxHeartbeats 4000000 in
theorem napart (P : NumP) (Q : NumS) (c f k c2 f2 k2 : Int) (n : Nat) (hn : n < 18446744073709551616) (HR1 : Hid (InR f k)) (HR2 : Hid (InR f2 k2)) (w : World) : Calls Try.prog 7 #[stV c f k, stV c2 f2 k2, .int .u64 n] w fun e w' => e = .returned (.bool true) ∧ Fr (fun _ => False) w w' := by
  obtain ⟨W0, hW0⟩ : ∃ W0, W0 = (w.alloc (.cells #[.int .i64 c, .int .i64 f, .int .i64 k] 43)).alloc (.cells #[.int .i64 c2, .int .i64 f2, .int .i64 k2] 43) := ⟨_, rfl⟩
  have hsz : (w.alloc (.cells #[.int .i64 c, .int .i64 f, .int .i64 k] 43)).heap.size = w.heap.size + 1 := by simp
  have hb1 : Blk W0 w.heap.size 43 #[.int .i64 c, .int .i64 f, .int .i64 k] := by
    rw [hW0]
    exact (Blk.new w _ _).keep (F := fun _ => False) ((Fr.refl _ _).alloc _) (fun q => q)
  have hb2 : Blk W0 (w.heap.size + 1) 43 #[.int .i64 c2, .int .i64 f2, .int .i64 k2] := by
    rw [hW0]
    have := Blk.new (w.alloc (.cells #[.int .i64 c, .int .i64 f, .int .i64 k] 43)) 43 #[.int .i64 c2, .int .i64 f2, .int .i64 k2]
    rwa [hsz] at this
  have HF0 : Hid (Fr (fun _ => False) w W0) := Lib.hid (by rw [hW0]; exact ((Fr.refl _ w).alloc _).alloc _)
  have HST : Hid (∀ W, Fr (fun _ => False) W0 W → W.rangeAt w.heap.size 0 [.int .i64 c, .int .i64 f, .int .i64 k] ∧ W.rangeAt (w.heap.size + 1) 0 [.int .i64 c2, .int .i64 f2, .int .i64 k2]) := Lib.hid fun W g => ⟨fun i u hi => by rw [(hb1.keep g (fun q => q)).cell, Nat.zero_add]; simpa using hi, fun i u hi => by rw [(hb2.keep g (fun q => q)).cell, Nat.zero_add]; simpa using hi⟩
  have q0 : W0.cell? ⟨w.heap.size, 0, none⟩ = some (.int .i64 c) := by rw [hb1.cell]; rfl
  have q1 : W0.cell? ⟨w.heap.size, 1, none⟩ = some (.int .i64 f) := by rw [hb1.cell]; rfl
  have q2 : W0.cell? ⟨w.heap.size, 2, none⟩ = some (.int .i64 k) := by rw [hb1.cell]; rfl
  have r0 : W0.cell? ⟨w.heap.size + 1, 0, none⟩ = some (.int .i64 c2) := by rw [hb2.cell]; rfl
  have r1 : W0.cell? ⟨w.heap.size + 1, 1, none⟩ = some (.int .i64 f2) := by rw [hb2.cell]; rfl
  have r2 : W0.cell? ⟨w.heap.size + 1, 2, none⟩ = some (.int .i64 k2) := by rw [hb2.cell]; rfl
  have HM1 := Lib.hid (fun W => rmays_any c f k W)
  have HM2 := Lib.hid (fun W => rmays_any c2 f2 k2 W)
  generalize mayS c f k = m1 at HM1
  generalize mayS c2 f2 k2 = m2 at HM2
  have HN := Lib.hid hn
  clear hb1 hb2 hn hsz
  go_enter Try.func7, Try.ntmps7
  go_upto_region 1 with fail
  rw [← hW0]
  clear hW0
  by_cases e : c = c2
  · have ec : ((c : Int) == c2) = true := by rw [beq_iff_eq]; exact e
    by_cases h1 : f < wrap64 (f2 + k2)
    · have d1 : decide (f < wrap64 (f2 + k2)) = true := decide_eq_true h1
      by_cases h2 : f2 < wrap64 (f + k)
      · have d2 : decide (f2 < wrap64 (f + k)) = true := decide_eq_true h2
        clear e
        go_upto_region 2 with fail
        clear q0 q1 q2 r0 r1 r2
        have HCM : Hid (True) := Lib.hid (trivial)
        have g0 := HST.out W0 (Fr.refl _ W0)
        clear ec
        go_wp2_with (first | (refine wpList_load_mid rfl 43 _ rfl w.heap.size 0 rfl [.int .i64 c, .int .i64 f, .int .i64 k] _ g0.1 Try.underlying43 rfl (by kernel_rfl) ?_) | (refine wpList_load_want (by rfl) 43 _ rfl w.heap.size 0 rfl [.int .i64 c, .int .i64 f, .int .i64 k] _ g0.1 Try.underlying43 rfl (by kernel_rfl) ?_))
        refine (HM1.out W0).mono ?_
        rintro e W1 ⟨rfl, F1⟩
        have g1 := HST.out W1 F1
        clear g0 HM1
        cases m1 with
        | false =>
          have H9 := Lib.hid (HF0.out.trans F1 (fun _ _ q => q))
          clear g1 F1 HM2
          go_wp2_with fail
          refine (nknown P _).mono ?_
          rintro e wk ⟨rfl, fk⟩
          have HK := Lib.hid fk
          clear fk
          go_wp2_with fail
          go_ret
          exact ⟨rfl, H9.out.trans HK.out (fun _ _ q => q)⟩
        | true =>
          go_wp2_with (first | (refine wpList_load_mid rfl 43 _ rfl (w.heap.size + 1) 0 rfl [.int .i64 c2, .int .i64 f2, .int .i64 k2] _ g1.2 Try.underlying43 rfl (by kernel_rfl) ?_) | (refine wpList_load_want (by rfl) 43 _ rfl (w.heap.size + 1) 0 rfl [.int .i64 c2, .int .i64 f2, .int .i64 k2] _ g1.2 Try.underlying43 rfl (by kernel_rfl) ?_))
          refine (HM2.out W1).mono ?_
          rintro e W2 ⟨rfl, f2'⟩
          have F2 := F1.trans f2' (fun _ _ q => q)
          clear f2' g1 F1 HM2
          cases m2 with
          | false =>
            have H9 := Lib.hid (HF0.out.trans F2 (fun _ _ q => q))
            clear F2
            go_wp2_with fail
            refine (nknown P _).mono ?_
            rintro e wk ⟨rfl, fk⟩
            have HK := Lib.hid fk
            clear fk
            go_wp2_with fail
            go_ret
            exact ⟨rfl, H9.out.trans HK.out (fun _ _ q => q)⟩
          | true =>
            have H9 := Lib.hid (HF0.out.trans F2 (fun _ _ q => q))
            clear F2
            go_wp2_with fail
            refine (nknown P _).mono ?_
            rintro e wk ⟨rfl, fk⟩
            have HK := Lib.hid fk
            clear fk
            go_wp2_with fail
            go_ret
            exact ⟨rfl, H9.out.trans HK.out (fun _ _ q => q)⟩
      · have d2 : decide (f2 < wrap64 (f + k)) = false := decide_eq_false h2
        have hcm : ¬ (c = c2 ∧ f < wrap64 (f2 + k2) ∧ f2 < wrap64 (f + k)) := fun q => h2 q.2.2
        clear e
        go_upto_region 2 with fail
        clear q0 q1 q2 r0 r1 r2
        have HCM : Hid (¬ (c = c2 ∧ f < wrap64 (f2 + k2) ∧ f2 < wrap64 (f + k))) := Lib.hid (hcm)
        have g0 := HST.out W0 (Fr.refl _ W0)
        clear ec
        go_wp2_with (first | (refine wpList_load_mid rfl 43 _ rfl w.heap.size 0 rfl [.int .i64 c, .int .i64 f, .int .i64 k] _ g0.1 Try.underlying43 rfl (by kernel_rfl) ?_) | (refine wpList_load_want (by rfl) 43 _ rfl w.heap.size 0 rfl [.int .i64 c, .int .i64 f, .int .i64 k] _ g0.1 Try.underlying43 rfl (by kernel_rfl) ?_))
        refine (HM1.out W0).mono ?_
        rintro e W1 ⟨rfl, F1⟩
        have g1 := HST.out W1 F1
        clear g0 HM1
        cases m1 with
        | false =>
          have H9 := Lib.hid (HF0.out.trans F1 (fun _ _ q => q))
          clear g1 F1 HM2
          go_wp2_with fail
          refine (nknown P _).mono ?_
          rintro e wk ⟨rfl, fk⟩
          have HK := Lib.hid fk
          clear fk
          go_wp2_with fail
          go_ret
          exact ⟨rfl, H9.out.trans HK.out (fun _ _ q => q)⟩
        | true =>
          go_wp2_with (first | (refine wpList_load_mid rfl 43 _ rfl (w.heap.size + 1) 0 rfl [.int .i64 c2, .int .i64 f2, .int .i64 k2] _ g1.2 Try.underlying43 rfl (by kernel_rfl) ?_) | (refine wpList_load_want (by rfl) 43 _ rfl (w.heap.size + 1) 0 rfl [.int .i64 c2, .int .i64 f2, .int .i64 k2] _ g1.2 Try.underlying43 rfl (by kernel_rfl) ?_))
          refine (HM2.out W1).mono ?_
          rintro e W2 ⟨rfl, f2'⟩
          have F2 := F1.trans f2' (fun _ _ q => q)
          clear f2' g1 F1 HM2
          cases m2 with
          | false =>
            have H9 := Lib.hid (HF0.out.trans F2 (fun _ _ q => q))
            clear F2
            go_wp2_with fail
            refine (nknown P _).mono ?_
            rintro e wk ⟨rfl, fk⟩
            have HK := Lib.hid fk
            clear fk
            go_wp2_with fail
            go_ret
            exact ⟨rfl, H9.out.trans HK.out (fun _ _ q => q)⟩
          | true =>
            obtain ⟨b1, hb1⟩ : ∃ b1, b1 = inS c f k n := ⟨_, rfl⟩
            obtain ⟨b2, hb2⟩ : ∃ b2, b2 = inS c2 f2 k2 n := ⟨_, rfl⟩
            have HI1 := Lib.hid (fun W => Q.in_ c f k n W HR1.out HN.out)
            have HI2 := Lib.hid (fun W => Q.in_ c2 f2 k2 n W HR2.out HN.out)
            simp only [← hb1] at HI1
            simp only [← hb2] at HI2
            have HX : Hid (¬ (b1 = true ∧ b2 = true)) := Lib.hid (by
              rintro ⟨q1, q2⟩
              rw [hb1] at q1
              rw [hb2] at q2
              unfold inS mayS at q1 q2
              simp only [Bool.and_eq_true, decide_eq_true_eq] at q1 q2
              have r := HCM.out
              have w1 : wrap64 (f2 + k2) = f2 + k2 := by unfold wrap64; omega
              have w2 : wrap64 (f + k) = f + k := by unfold wrap64; omega
              rw [w1, w2] at r
              omega)
            have g2 := HST.out W2 F2
            clear hb1 hb2
            go_wp2_with (first | (refine wpList_load_mid rfl 43 _ rfl w.heap.size 0 rfl [.int .i64 c, .int .i64 f, .int .i64 k] _ g2.1 Try.underlying43 rfl (by kernel_rfl) ?_) | (refine wpList_load_want (by rfl) 43 _ rfl w.heap.size 0 rfl [.int .i64 c, .int .i64 f, .int .i64 k] _ g2.1 Try.underlying43 rfl (by kernel_rfl) ?_))
            refine (HI1.out W2).mono ?_
            rintro e W3 ⟨rfl, f3⟩
            have F3 := F2.trans f3 (fun _ _ q => q)
            have g3 := HST.out W3 F3
            clear f3 g2 HI1
            cases b1 with
            | false =>
              have H9 := Lib.hid (HF0.out.trans F3 (fun _ _ q => q))
              clear g3 F2 F3 HI2
              go_wp2_with fail
              refine (nknown P _).mono ?_
              rintro e wk ⟨rfl, fk⟩
              have HK := Lib.hid fk
              clear fk
              go_wp2_with fail
              go_ret
              exact ⟨rfl, H9.out.trans HK.out (fun _ _ q => q)⟩
            | true =>
              go_wp2_with (first | (refine wpList_load_mid rfl 43 _ rfl (w.heap.size + 1) 0 rfl [.int .i64 c2, .int .i64 f2, .int .i64 k2] _ g3.2 Try.underlying43 rfl (by kernel_rfl) ?_) | (refine wpList_load_want (by rfl) 43 _ rfl (w.heap.size + 1) 0 rfl [.int .i64 c2, .int .i64 f2, .int .i64 k2] _ g3.2 Try.underlying43 rfl (by kernel_rfl) ?_))
              refine (HI2.out W3).mono ?_
              rintro e W4 ⟨rfl, f4⟩
              have H9 := Lib.hid (HF0.out.trans (F3.trans f4 (fun _ _ q => q)) (fun _ _ q => q))
              clear f4 g3 F2 F3 HI2
              cases b2 with
              | false =>
                go_wp2_with fail
                refine (nknown P _).mono ?_
                rintro e wk ⟨rfl, fk⟩
                have HK := Lib.hid fk
                clear fk
                go_wp2_with fail
                go_ret
                exact ⟨rfl, H9.out.trans HK.out (fun _ _ q => q)⟩
              | true => exact (HX.out (by simp)).elim
    · have d1 : decide (f < wrap64 (f2 + k2)) = false := decide_eq_false h1
      have d2 : True := trivial
      have hcm : ¬ (c = c2 ∧ f < wrap64 (f2 + k2) ∧ f2 < wrap64 (f + k)) := fun q => h1 q.2.1
      clear e
      go_upto_region 2 with fail
      clear q0 q1 q2 r0 r1 r2
      have HCM : Hid (¬ (c = c2 ∧ f < wrap64 (f2 + k2) ∧ f2 < wrap64 (f + k))) := Lib.hid (hcm)
      have g0 := HST.out W0 (Fr.refl _ W0)
      clear ec
      go_wp2_with (first | (refine wpList_load_mid rfl 43 _ rfl w.heap.size 0 rfl [.int .i64 c, .int .i64 f, .int .i64 k] _ g0.1 Try.underlying43 rfl (by kernel_rfl) ?_) | (refine wpList_load_want (by rfl) 43 _ rfl w.heap.size 0 rfl [.int .i64 c, .int .i64 f, .int .i64 k] _ g0.1 Try.underlying43 rfl (by kernel_rfl) ?_))
      refine (HM1.out W0).mono ?_
      rintro e W1 ⟨rfl, F1⟩
      have g1 := HST.out W1 F1
      clear g0 HM1
      cases m1 with
      | false =>
        have H9 := Lib.hid (HF0.out.trans F1 (fun _ _ q => q))
        clear g1 F1 HM2
        go_wp2_with fail
        refine (nknown P _).mono ?_
        rintro e wk ⟨rfl, fk⟩
        have HK := Lib.hid fk
        clear fk
        go_wp2_with fail
        go_ret
        exact ⟨rfl, H9.out.trans HK.out (fun _ _ q => q)⟩
      | true =>
        go_wp2_with (first | (refine wpList_load_mid rfl 43 _ rfl (w.heap.size + 1) 0 rfl [.int .i64 c2, .int .i64 f2, .int .i64 k2] _ g1.2 Try.underlying43 rfl (by kernel_rfl) ?_) | (refine wpList_load_want (by rfl) 43 _ rfl (w.heap.size + 1) 0 rfl [.int .i64 c2, .int .i64 f2, .int .i64 k2] _ g1.2 Try.underlying43 rfl (by kernel_rfl) ?_))
        refine (HM2.out W1).mono ?_
        rintro e W2 ⟨rfl, f2'⟩
        have F2 := F1.trans f2' (fun _ _ q => q)
        clear f2' g1 F1 HM2
        cases m2 with
        | false =>
          have H9 := Lib.hid (HF0.out.trans F2 (fun _ _ q => q))
          clear F2
          go_wp2_with fail
          refine (nknown P _).mono ?_
          rintro e wk ⟨rfl, fk⟩
          have HK := Lib.hid fk
          clear fk
          go_wp2_with fail
          go_ret
          exact ⟨rfl, H9.out.trans HK.out (fun _ _ q => q)⟩
        | true =>
          obtain ⟨b1, hb1⟩ : ∃ b1, b1 = inS c f k n := ⟨_, rfl⟩
          obtain ⟨b2, hb2⟩ : ∃ b2, b2 = inS c2 f2 k2 n := ⟨_, rfl⟩
          have HI1 := Lib.hid (fun W => Q.in_ c f k n W HR1.out HN.out)
          have HI2 := Lib.hid (fun W => Q.in_ c2 f2 k2 n W HR2.out HN.out)
          simp only [← hb1] at HI1
          simp only [← hb2] at HI2
          have HX : Hid (¬ (b1 = true ∧ b2 = true)) := Lib.hid (by
            rintro ⟨q1, q2⟩
            rw [hb1] at q1
            rw [hb2] at q2
            unfold inS mayS at q1 q2
            simp only [Bool.and_eq_true, decide_eq_true_eq] at q1 q2
            have r := HCM.out
            have w1 : wrap64 (f2 + k2) = f2 + k2 := by unfold wrap64; omega
            have w2 : wrap64 (f + k) = f + k := by unfold wrap64; omega
            rw [w1, w2] at r
            omega)
          have g2 := HST.out W2 F2
          clear hb1 hb2
          go_wp2_with (first | (refine wpList_load_mid rfl 43 _ rfl w.heap.size 0 rfl [.int .i64 c, .int .i64 f, .int .i64 k] _ g2.1 Try.underlying43 rfl (by kernel_rfl) ?_) | (refine wpList_load_want (by rfl) 43 _ rfl w.heap.size 0 rfl [.int .i64 c, .int .i64 f, .int .i64 k] _ g2.1 Try.underlying43 rfl (by kernel_rfl) ?_))
          refine (HI1.out W2).mono ?_
          rintro e W3 ⟨rfl, f3⟩
          have F3 := F2.trans f3 (fun _ _ q => q)
          have g3 := HST.out W3 F3
          clear f3 g2 HI1
          cases b1 with
          | false =>
            have H9 := Lib.hid (HF0.out.trans F3 (fun _ _ q => q))
            clear g3 F2 F3 HI2
            go_wp2_with fail
            refine (nknown P _).mono ?_
            rintro e wk ⟨rfl, fk⟩
            have HK := Lib.hid fk
            clear fk
            go_wp2_with fail
            go_ret
            exact ⟨rfl, H9.out.trans HK.out (fun _ _ q => q)⟩
          | true =>
            go_wp2_with (first | (refine wpList_load_mid rfl 43 _ rfl (w.heap.size + 1) 0 rfl [.int .i64 c2, .int .i64 f2, .int .i64 k2] _ g3.2 Try.underlying43 rfl (by kernel_rfl) ?_) | (refine wpList_load_want (by rfl) 43 _ rfl (w.heap.size + 1) 0 rfl [.int .i64 c2, .int .i64 f2, .int .i64 k2] _ g3.2 Try.underlying43 rfl (by kernel_rfl) ?_))
            refine (HI2.out W3).mono ?_
            rintro e W4 ⟨rfl, f4⟩
            have H9 := Lib.hid (HF0.out.trans (F3.trans f4 (fun _ _ q => q)) (fun _ _ q => q))
            clear f4 g3 F2 F3 HI2
            cases b2 with
            | false =>
              go_wp2_with fail
              refine (nknown P _).mono ?_
              rintro e wk ⟨rfl, fk⟩
              have HK := Lib.hid fk
              clear fk
              go_wp2_with fail
              go_ret
              exact ⟨rfl, H9.out.trans HK.out (fun _ _ q => q)⟩
            | true => exact (HX.out (by simp)).elim
  · have ec : ((c : Int) == c2) = false := by rw [beq_eq_false_iff_ne]; exact e
    have d1 : True := trivial
    have d2 : True := trivial
    have hcm : ¬ (c = c2 ∧ f < wrap64 (f2 + k2) ∧ f2 < wrap64 (f + k)) := fun q => e q.1
    clear e
    go_upto_region 2 with fail
    clear q0 q1 q2 r0 r1 r2
    have HCM : Hid (¬ (c = c2 ∧ f < wrap64 (f2 + k2) ∧ f2 < wrap64 (f + k))) := Lib.hid (hcm)
    have g0 := HST.out W0 (Fr.refl _ W0)
    clear ec
    go_wp2_with (first | (refine wpList_load_mid rfl 43 _ rfl w.heap.size 0 rfl [.int .i64 c, .int .i64 f, .int .i64 k] _ g0.1 Try.underlying43 rfl (by kernel_rfl) ?_) | (refine wpList_load_want (by rfl) 43 _ rfl w.heap.size 0 rfl [.int .i64 c, .int .i64 f, .int .i64 k] _ g0.1 Try.underlying43 rfl (by kernel_rfl) ?_))
    refine (HM1.out W0).mono ?_
    rintro e W1 ⟨rfl, F1⟩
    have g1 := HST.out W1 F1
    clear g0 HM1
    cases m1 with
    | false =>
      have H9 := Lib.hid (HF0.out.trans F1 (fun _ _ q => q))
      clear g1 F1 HM2
      go_wp2_with fail
      refine (nknown P _).mono ?_
      rintro e wk ⟨rfl, fk⟩
      have HK := Lib.hid fk
      clear fk
      go_wp2_with fail
      go_ret
      exact ⟨rfl, H9.out.trans HK.out (fun _ _ q => q)⟩
    | true =>
      go_wp2_with (first | (refine wpList_load_mid rfl 43 _ rfl (w.heap.size + 1) 0 rfl [.int .i64 c2, .int .i64 f2, .int .i64 k2] _ g1.2 Try.underlying43 rfl (by kernel_rfl) ?_) | (refine wpList_load_want (by rfl) 43 _ rfl (w.heap.size + 1) 0 rfl [.int .i64 c2, .int .i64 f2, .int .i64 k2] _ g1.2 Try.underlying43 rfl (by kernel_rfl) ?_))
      refine (HM2.out W1).mono ?_
      rintro e W2 ⟨rfl, f2'⟩
      have F2 := F1.trans f2' (fun _ _ q => q)
      clear f2' g1 F1 HM2
      cases m2 with
      | false =>
        have H9 := Lib.hid (HF0.out.trans F2 (fun _ _ q => q))
        clear F2
        go_wp2_with fail
        refine (nknown P _).mono ?_
        rintro e wk ⟨rfl, fk⟩
        have HK := Lib.hid fk
        clear fk
        go_wp2_with fail
        go_ret
        exact ⟨rfl, H9.out.trans HK.out (fun _ _ q => q)⟩
      | true =>
        obtain ⟨b1, hb1⟩ : ∃ b1, b1 = inS c f k n := ⟨_, rfl⟩
        obtain ⟨b2, hb2⟩ : ∃ b2, b2 = inS c2 f2 k2 n := ⟨_, rfl⟩
        have HI1 := Lib.hid (fun W => Q.in_ c f k n W HR1.out HN.out)
        have HI2 := Lib.hid (fun W => Q.in_ c2 f2 k2 n W HR2.out HN.out)
        simp only [← hb1] at HI1
        simp only [← hb2] at HI2
        have HX : Hid (¬ (b1 = true ∧ b2 = true)) := Lib.hid (by
          rintro ⟨q1, q2⟩
          rw [hb1] at q1
          rw [hb2] at q2
          unfold inS mayS at q1 q2
          simp only [Bool.and_eq_true, decide_eq_true_eq] at q1 q2
          have r := HCM.out
          have w1 : wrap64 (f2 + k2) = f2 + k2 := by unfold wrap64; omega
          have w2 : wrap64 (f + k) = f + k := by unfold wrap64; omega
          rw [w1, w2] at r
          omega)
        have g2 := HST.out W2 F2
        clear hb1 hb2
        go_wp2_with (first | (refine wpList_load_mid rfl 43 _ rfl w.heap.size 0 rfl [.int .i64 c, .int .i64 f, .int .i64 k] _ g2.1 Try.underlying43 rfl (by kernel_rfl) ?_) | (refine wpList_load_want (by rfl) 43 _ rfl w.heap.size 0 rfl [.int .i64 c, .int .i64 f, .int .i64 k] _ g2.1 Try.underlying43 rfl (by kernel_rfl) ?_))
        refine (HI1.out W2).mono ?_
        rintro e W3 ⟨rfl, f3⟩
        have F3 := F2.trans f3 (fun _ _ q => q)
        have g3 := HST.out W3 F3
        clear f3 g2 HI1
        cases b1 with
        | false =>
          have H9 := Lib.hid (HF0.out.trans F3 (fun _ _ q => q))
          clear g3 F2 F3 HI2
          go_wp2_with fail
          refine (nknown P _).mono ?_
          rintro e wk ⟨rfl, fk⟩
          have HK := Lib.hid fk
          clear fk
          go_wp2_with fail
          go_ret
          exact ⟨rfl, H9.out.trans HK.out (fun _ _ q => q)⟩
        | true =>
          go_wp2_with (first | (refine wpList_load_mid rfl 43 _ rfl (w.heap.size + 1) 0 rfl [.int .i64 c2, .int .i64 f2, .int .i64 k2] _ g3.2 Try.underlying43 rfl (by kernel_rfl) ?_) | (refine wpList_load_want (by rfl) 43 _ rfl (w.heap.size + 1) 0 rfl [.int .i64 c2, .int .i64 f2, .int .i64 k2] _ g3.2 Try.underlying43 rfl (by kernel_rfl) ?_))
          refine (HI2.out W3).mono ?_
          rintro e W4 ⟨rfl, f4⟩
          have H9 := Lib.hid (HF0.out.trans (F3.trans f4 (fun _ _ q => q)) (fun _ _ q => q))
          clear f4 g3 F2 F3 HI2
          cases b2 with
          | false =>
            go_wp2_with fail
            refine (nknown P _).mono ?_
            rintro e wk ⟨rfl, fk⟩
            have HK := Lib.hid fk
            clear fk
            go_wp2_with fail
            go_ret
            exact ⟨rfl, H9.out.trans HK.out (fun _ _ q => q)⟩
          | true => exact (HX.out (by simp)).elim
end Go.Proofs.Ytchofmncinbmcaa
