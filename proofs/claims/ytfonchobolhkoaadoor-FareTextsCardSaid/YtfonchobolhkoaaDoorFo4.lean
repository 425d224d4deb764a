/- Of of the landed code, walked. -/
import Derived.Test.YtfonchobolhkoaaDoorFo3
namespace Go.Proofs.YtfonchobolhkoaaDoor
open Go.RowKit

theorem cut_len (t : List UInt8) : (Lib.cut t [46]).1.length + (Lib.cut t [46]).2.1.length ≤ t.length := by
  rcases dot_cut t with ⟨_, h⟩ | ⟨A, B, h1, _, h3⟩
  · rw [h]; simp
  · rw [h3, h1]; simp
set_option maxRecDepth 100000 in
set_option maxHeartbeats 4000000 in
theorem pof_any (s : ByteArray) (w : World) (hv : Vok w) (hs : s.size ≤ 1000) : Calls Tryd.prog 23 #[.string s] w fun e w' => e = .returned (.tuple #[.int .i64 (ofFN s.data.toList), .int .i64 (ofFE s.data.toList : Nat)]) ∧ Fr (fun _ => False) w w' := by
  obtain ⟨x, hx⟩ : ∃ x, x = ofFN s.data.toList := ⟨_, rfl⟩
  obtain ⟨y, hy⟩ : ∃ y, y = ofFE s.data.toList := ⟨_, rfl⟩
  rw [← hx, ← hy]
  have H1 := Lib.hid (cup_any s)
  obtain ⟨ta, hta⟩ : ∃ ta : ByteArray, ta = ⟨(bodyOf s.data.toList).toArray⟩ := ⟨_, rfl⟩
  have htl : ta.data.toList = bodyOf s.data.toList := by rw [hta]
  have hbl : (bodyOf s.data.toList).length ≤ 1000 := by
    unfold bodyOf
    rw [size_list] at hs
    split
    · rw [List.length_tail]; omega
    · omega
  obtain ⟨neg, hneg⟩ : ∃ b, b = decide (s.data.toList.head? = some 45) := ⟨_, rfl⟩
  rw [← hta, ← hneg] at H1
  have H2 := Lib.hid (cut_any ta (by rw [size_list, htl]; omega) hv)
  rw [htl] at H2
  have hcl := cut_len (bodyOf s.data.toList)
  obtain ⟨ha, hha⟩ : ∃ ha : ByteArray, ha = ⟨(Lib.cut (bodyOf s.data.toList) [46]).1.toArray⟩ := ⟨_, rfl⟩
  obtain ⟨ca, hca⟩ : ∃ ca : ByteArray, ca = ⟨(Lib.cut (bodyOf s.data.toList) [46]).2.1.toArray⟩ := ⟨_, rfl⟩
  obtain ⟨fd, hfd⟩ : ∃ fd, fd = (Lib.cut (bodyOf s.data.toList) [46]).2.2 := ⟨_, rfl⟩
  have hal : ha.data.toList = (Lib.cut (bodyOf s.data.toList) [46]).1 := by rw [hha]
  have hcll : ca.data.toList = (Lib.cut (bodyOf s.data.toList) [46]).2.1 := by rw [hca]
  rw [← hha, ← hca, ← hfd] at H2
  rw [← hal, ← hcll] at hcl
  have hsz : ha.size + ca.size ≤ 1000 := by rw [size_list, size_list]; omega
  have H3 := Lib.hid (least_any ha (by omega))
  have H4 := Lib.hid (digits_any ca (by omega))
  obtain ⟨hbc, _⟩ := body_cut (bodyOf s.data.toList)
  rw [← hal, ← hcll] at hbc
  have hcs : ca.data.toList.length = ca.size := (size_list ca).symm
  rw [hcs] at hbc
  have hszi : (ha.size : Int) + (ca.size : Int) ≤ 1000 := by omega
  have hapz : (ha ++ ca).size = ha.size + ca.size := by rw [ByteArray.size_append]
  cases hA : leastB ha.data.toList with
  | false =>
    rw [hA] at hbc H3
    obtain ⟨e1, e2⟩ := of_bad (l := s.data.toList) (by rw [hbc]; rfl)
    obtain rfl : y = 4 := hy.trans e1
    obtain rfl : x = 0 := hx.trans e2
    clear hx hy hta htl hbl hneg hcl hha hca hfd hal hcll hbc hcs hA e1 e2 hv hs
    go_enter Tryd.func23, Tryd.ntmps23
    go_wp2_with fail
    refine (H1.out _).mono ?_
    rintro e w1 ⟨rfl, rfl⟩
    go_wp2_with fail
    refine H2.out.mono ?_
    rintro e w2 ⟨rfl, f2⟩
    have HF2 := Lib.hid f2
    clear f2
    go_wp2_with fail
    refine (H3.out _).mono ?_
    rintro e w3 ⟨rfl, f3⟩
    have HF3 := Lib.hid (HF2.out.trans f3 (fun _ _ q => q))
    clear f3
    go_wp2_with fail
    go_ret2
    exact ⟨rfl, HF3.out⟩
  | true =>
    rw [hA] at hbc H3
    cases hB : ca.data.toList.all isDig with
    | false =>
      rw [hB] at hbc H4
      obtain ⟨e1, e2⟩ := of_bad (l := s.data.toList) (by rw [hbc]; rfl)
      obtain rfl : y = 4 := hy.trans e1
      obtain rfl : x = 0 := hx.trans e2
      clear hx hy hta htl hbl hneg hcl hha hca hfd hal hcll hbc hcs hA hB e1 e2 hv hs
      go_enter Tryd.func23, Tryd.ntmps23
      go_wp2_with fail
      refine (H1.out _).mono ?_
      rintro e w1 ⟨rfl, rfl⟩
      go_wp2_with fail
      refine H2.out.mono ?_
      rintro e w2 ⟨rfl, f2⟩
      have HF2 := Lib.hid f2
      clear f2
      go_wp2_with fail
      refine (H3.out _).mono ?_
      rintro e w3 ⟨rfl, f3⟩
      have HF3 := Lib.hid (HF2.out.trans f3 (fun _ _ q => q))
      clear f3
      go_wp2_with fail
      refine (H4.out _).mono ?_
      rintro e w4 ⟨rfl, f4⟩
      have HF4 := Lib.hid (HF3.out.trans f4 (fun _ _ q => q))
      clear f4
      go_wp2_with fail
      go_ret2
      exact ⟨rfl, HF4.out⟩
    | true =>
      rw [hB] at hbc H4
      by_cases h2 : ca.size = 2
      · have hb2 : ((ca.size : Int) != 2) = false := by rw [bne_eq_false_iff_eq]; omega
        obtain ⟨g1, g2⟩ := of_good (l := s.data.toList) hA hB (by rw [hcs]; exact h2) hal.symm hcll.symm
        have hapd : (ha ++ ca).data.toList = ha.data.toList ++ ca.data.toList := app_list ha ca
        have hAd : ha.data.toList.all isDig = true := by
          unfold leastB at hA
          simp only [Bool.and_eq_true] at hA
          exact hA.1.1
        have H5 := Lib.hid (worth_any (ha ++ ca) (by rw [hapd, List.all_append, hAd, hB]; rfl))
        rw [hapd] at H5
        obtain ⟨v, hvv⟩ : ∃ v, v = dval (ha.data.toList ++ ca.data.toList) := ⟨_, rfl⟩
        rw [← hvv] at g1 g2 H5
        obtain ⟨k1, k2, k3, k4⟩ := sat_le (n := v)
        obtain ⟨n, hn⟩ : ∃ n, n = satN v := ⟨_, rfl⟩
        rw [← hn] at k1 k2 k3 k4 H5
        have H6 := Lib.hid (pmay_any (n : Int))
        have hnd : neg = true ↔ s.data.toList.head? = some 45 := by rw [hneg, decide_eq_true_eq]
        by_cases h0 : v = 0
        · have hn0 : n = 0 := k2.2 h0
          have hnb : ((n : Int) == 0) = true := by rw [beq_iff_eq]; omega
          cases neg with
          | true =>
            obtain ⟨e1, e2⟩ := g1 ⟨h0, hnd.1 rfl⟩
            obtain rfl : y = 4 := hy.trans e1
            obtain rfl : x = 0 := hx.trans e2
            clear hx hy hta htl hbl hneg hcl hha hca hfd hal hcll hbc hcs hA hB e1 e2 hv hs g1 g2 hapd hAd hvv k1 k2 k3 k4 hn hnd hn0 h0 h2
            go_enter Tryd.func23, Tryd.ntmps23
            go_wp2_with fail
            refine (H1.out _).mono ?_
            rintro e w1 ⟨rfl, rfl⟩
            go_wp2_with fail
            refine H2.out.mono ?_
            rintro e w2 ⟨rfl, f2⟩
            have HF2 := Lib.hid f2
            clear f2
            go_wp2_with fail
            refine (H3.out _).mono ?_
            rintro e w3 ⟨rfl, f3⟩
            have HF3 := Lib.hid (HF2.out.trans f3 (fun _ _ q => q))
            clear f3
            go_wp2_with fail
            refine (H4.out _).mono ?_
            rintro e w4 ⟨rfl, f4⟩
            have HF4 := Lib.hid (HF3.out.trans f4 (fun _ _ q => q))
            clear f4
            go_wp2_with fail
            refine (H5.out _).mono ?_
            rintro e w5 ⟨rfl, f5⟩
            have HF5 := Lib.hid (HF4.out.trans f5 (fun _ _ q => q))
            clear f5
            go_wp2_with fail
            go_ret2
            exact ⟨rfl, HF5.out⟩
          | false =>
            have hh : ¬ s.data.toList.head? = some 45 := fun q => by cases hnd.2 q
            obtain ⟨e1, e2⟩ := g2 (fun q => hh q.2)
            rw [if_neg (by omega)] at e1
            rw [if_neg (by omega), if_neg hh] at e2
            obtain rfl : y = 0 := hy.trans e1
            obtain rfl : x = 0 := by rw [hx, e2, h0]; rfl
            subst hn0
            rw [show mayF ((0 : Nat) : Int) = true from by decide] at H6
            clear hx hy hta htl hbl hneg hcl hha hca hfd hal hcll hbc hcs hA hB e1 e2 hv hs g1 g2 hapd hAd hvv k1 k2 k3 k4 hn hnd h0 h2 hh
            go_enter Tryd.func23, Tryd.ntmps23
            go_wp2_with fail
            refine (H1.out _).mono ?_
            rintro e w1 ⟨rfl, rfl⟩
            go_wp2_with fail
            refine H2.out.mono ?_
            rintro e w2 ⟨rfl, f2⟩
            have HF2 := Lib.hid f2
            clear f2
            go_wp2_with fail
            refine (H3.out _).mono ?_
            rintro e w3 ⟨rfl, f3⟩
            have HF3 := Lib.hid (HF2.out.trans f3 (fun _ _ q => q))
            clear f3
            go_wp2_with fail
            refine (H4.out _).mono ?_
            rintro e w4 ⟨rfl, f4⟩
            have HF4 := Lib.hid (HF3.out.trans f4 (fun _ _ q => q))
            clear f4
            go_wp2_with fail
            refine (H5.out _).mono ?_
            rintro e w5 ⟨rfl, f5⟩
            have HF5 := Lib.hid (HF4.out.trans f5 (fun _ _ q => q))
            clear f5
            go_wp2_with fail
            refine (H6.out _).mono ?_
            rintro e w6 ⟨rfl, rfl⟩
            go_wp2_with fail
            go_ret2
            exact ⟨rfl, HF5.out⟩
        · have hn0 : ¬ n = 0 := fun q => h0 (k2.1 q)
          have hnb : ((n : Int) == 0) = false := by rw [beq_eq_false_iff_ne]; omega
          obtain ⟨e1, e2⟩ := g2 (fun q => h0 q.1)
          by_cases hbig : 1000000000000 < v
          · rw [if_pos hbig] at e1 e2
            obtain rfl : y = 14 := hy.trans e1
            obtain rfl : x = 0 := hx.trans e2
            have hnm : mayF (n : Int) = false := decide_eq_false (by have := k3.2 hbig; omega)
            rw [hnm] at H6
            clear hx hy hta htl hbl hneg hcl hha hca hfd hal hcll hbc hcs hA hB e1 e2 hv hs g1 g2 hapd hAd hvv k1 k2 k3 k4 hn hnd h0 h2 hbig hnm hn0
            go_enter Tryd.func23, Tryd.ntmps23
            go_wp2_with fail
            refine (H1.out _).mono ?_
            rintro e w1 ⟨rfl, rfl⟩
            go_wp2_with fail
            refine H2.out.mono ?_
            rintro e w2 ⟨rfl, f2⟩
            have HF2 := Lib.hid f2
            clear f2
            go_wp2_with fail
            refine (H3.out _).mono ?_
            rintro e w3 ⟨rfl, f3⟩
            have HF3 := Lib.hid (HF2.out.trans f3 (fun _ _ q => q))
            clear f3
            go_wp2_with fail
            refine (H4.out _).mono ?_
            rintro e w4 ⟨rfl, f4⟩
            have HF4 := Lib.hid (HF3.out.trans f4 (fun _ _ q => q))
            clear f4
            go_wp2_with fail
            refine (H5.out _).mono ?_
            rintro e w5 ⟨rfl, f5⟩
            have HF5 := Lib.hid (HF4.out.trans f5 (fun _ _ q => q))
            clear f5
            go_wp2_with fail
            refine (H6.out _).mono ?_
            rintro e w6 ⟨rfl, rfl⟩
            go_wp2_with fail
            go_ret2
            exact ⟨rfl, HF5.out⟩
          · rw [if_neg hbig] at e1 e2
            obtain rfl : y = 0 := hy.trans e1
            have hnv : n = v := k4 (by omega)
            have hnm : mayF (n : Int) = true := decide_eq_true (by omega)
            rw [hnm] at H6
            cases neg with
            | true =>
              rw [if_pos (hnd.1 rfl), ← hnv] at e2
              obtain rfl : x = -(n : Int) := hx.trans e2
              have hnw : wrap64 (-(n : Int)) = -(n : Int) := wrap64_id (by omega) (by omega)
              clear hx hy hta htl hbl hneg hcl hha hca hfd hal hcll hbc hcs hA hB e1 e2 hv hs g1 g2 hapd hAd hvv k2 k3 k4 hn hnd h0 h2 hbig hnm hn0 hnv
              go_enter Tryd.func23, Tryd.ntmps23
              go_wp2_with fail
              refine (H1.out _).mono ?_
              rintro e w1 ⟨rfl, rfl⟩
              go_wp2_with fail
              refine H2.out.mono ?_
              rintro e w2 ⟨rfl, f2⟩
              have HF2 := Lib.hid f2
              clear f2
              go_wp2_with fail
              refine (H3.out _).mono ?_
              rintro e w3 ⟨rfl, f3⟩
              have HF3 := Lib.hid (HF2.out.trans f3 (fun _ _ q => q))
              clear f3
              go_wp2_with fail
              refine (H4.out _).mono ?_
              rintro e w4 ⟨rfl, f4⟩
              have HF4 := Lib.hid (HF3.out.trans f4 (fun _ _ q => q))
              clear f4
              go_wp2_with fail
              refine (H5.out _).mono ?_
              rintro e w5 ⟨rfl, f5⟩
              have HF5 := Lib.hid (HF4.out.trans f5 (fun _ _ q => q))
              clear f5
              go_wp2_with fail
              refine (H6.out _).mono ?_
              rintro e w6 ⟨rfl, rfl⟩
              go_wp2_with fail
              go_ret2
              exact ⟨rfl, HF5.out⟩
            | false =>
              rw [if_neg (fun q => by cases hnd.2 q), ← hnv] at e2
              obtain rfl : x = (n : Int) := hx.trans e2
              clear hx hy hta htl hbl hneg hcl hha hca hfd hal hcll hbc hcs hA hB e1 e2 hv hs g1 g2 hapd hAd hvv k2 k3 k4 hn hnd h0 h2 hbig hnm hn0 hnv
              go_enter Tryd.func23, Tryd.ntmps23
              go_wp2_with fail
              refine (H1.out _).mono ?_
              rintro e w1 ⟨rfl, rfl⟩
              go_wp2_with fail
              refine H2.out.mono ?_
              rintro e w2 ⟨rfl, f2⟩
              have HF2 := Lib.hid f2
              clear f2
              go_wp2_with fail
              refine (H3.out _).mono ?_
              rintro e w3 ⟨rfl, f3⟩
              have HF3 := Lib.hid (HF2.out.trans f3 (fun _ _ q => q))
              clear f3
              go_wp2_with fail
              refine (H4.out _).mono ?_
              rintro e w4 ⟨rfl, f4⟩
              have HF4 := Lib.hid (HF3.out.trans f4 (fun _ _ q => q))
              clear f4
              go_wp2_with fail
              refine (H5.out _).mono ?_
              rintro e w5 ⟨rfl, f5⟩
              have HF5 := Lib.hid (HF4.out.trans f5 (fun _ _ q => q))
              clear f5
              go_wp2_with fail
              refine (H6.out _).mono ?_
              rintro e w6 ⟨rfl, rfl⟩
              go_wp2_with fail
              go_ret2
              exact ⟨rfl, HF5.out⟩
      · have hb2 : ((ca.size : Int) != 2) = true := by rw [bne_iff_ne]; omega
        rw [decide_eq_false h2] at hbc
        obtain ⟨e1, e2⟩ := of_bad (l := s.data.toList) (by rw [hbc]; rfl)
        obtain rfl : y = 4 := hy.trans e1
        obtain rfl : x = 0 := hx.trans e2
        clear hx hy hta htl hbl hneg hcl hha hca hfd hal hcll hbc hcs hA hB e1 e2 hv hs h2
        go_enter Tryd.func23, Tryd.ntmps23
        go_wp2_with fail
        refine (H1.out _).mono ?_
        rintro e w1 ⟨rfl, rfl⟩
        go_wp2_with fail
        refine H2.out.mono ?_
        rintro e w2 ⟨rfl, f2⟩
        have HF2 := Lib.hid f2
        clear f2
        go_wp2_with fail
        refine (H3.out _).mono ?_
        rintro e w3 ⟨rfl, f3⟩
        have HF3 := Lib.hid (HF2.out.trans f3 (fun _ _ q => q))
        clear f3
        go_wp2_with fail
        refine (H4.out _).mono ?_
        rintro e w4 ⟨rfl, f4⟩
        have HF4 := Lib.hid (HF3.out.trans f4 (fun _ _ q => q))
        clear f4
        go_wp2_with fail
        go_ret2
        exact ⟨rfl, HF4.out⟩
end Go.Proofs.YtfonchobolhkoaaDoor
