/- The law WalLasts. -/
import Derived.Test.YtobnfadcffhfdaaVla
namespace Go.Proofs.Ytobnfadcffhfdaa
open Go.RowKit

set_option maxRecDepth 100000 in
set_option maxHeartbeats 8000000 in
theorem lasts_any {w : World} {v : Value} {xs : List LifeD} (hx : LifV w v xs) {m : Int} : Calls Try.prog 4 #[.int .i64 m, v] w fun e w' => e = .returned (.bool true) ∧ Fr (fun _ => False) w w' := by
  have HX := Lib.hid hx
  obtain ⟨A, cap, rfl, hxm, _⟩ := hx
  have h9 : xs.length ≤ 9223372036854775807 := by simp only [maxLen] at hxm; omega
  obtain ⟨n, hn⟩ : ∃ n, n = xs.length := ⟨_, rfl⟩
  rw [← hn] at HX h9 ⊢
  have HN := Lib.hid hn
  clear hxm hn
  by_cases h1 : (6 : Int) < (n : Int)
  · clear HX
    go_enter Try.func4, Try.ntmps4
    go_wp2_with fail
    refine (known_any _).mono ?_
    rintro e wk ⟨rfl, fk⟩
    have HK := Lib.hid (fk)
    clear fk
    go_wp2_with fail
    go_ret
    exact ⟨rfl, HK.out⟩
  by_cases h2 : m < 4
  · clear HX
    go_enter Try.func4, Try.ntmps4
    go_wp2_with fail
    refine (known_any _).mono ?_
    rintro e wk ⟨rfl, fk⟩
    have HK := Lib.hid (fk)
    clear fk
    go_wp2_with fail
    go_ret
    exact ⟨rfl, HK.out⟩
  by_cases h3 : 200 < m
  · clear HX
    go_enter Try.func4, Try.ntmps4
    go_wp2_with fail
    refine (known_any _).mono ?_
    rintro e wk ⟨rfl, fk⟩
    have HK := Lib.hid (fk)
    clear fk
    go_wp2_with fail
    go_ret
    exact ⟨rfl, HK.out⟩
  obtain ⟨z, rfl⟩ : ∃ z : Nat, m = z := ⟨m.toNat, by omega⟩
  have h4 : 4 ≤ z := by omega
  have h200 : z ≤ 200 := by omega
  have hn6 : n ≤ 6 := by omega
  go_enter Try.func4, Try.ntmps4
  go_wp2_with fail
  go_loop [5] (fun i => ∃ k : Nat, i = .int .i64 k ∧ k ≤ n ∧ Hid (∀ j x, j < k → xs[j]? = some x → x.ss.length ≤ 12 ∧ (∀ y ∈ x.ss, okS y) ∧ x.ps.length ≤ 300)) (fun i => n - (intOf i).toNat)
  case atStart => exact ⟨0, rfl, Nat.zero_le _, Lib.hid (fun j x hj => absurd hj (by omega))⟩
  case round =>
    obtain ⟨k, rfl, hk, HV⟩ := hrel
    by_cases hlt : k < n
    · obtain ⟨A0, cap0, e0, _, h5⟩ := HX.out
      injection e0 with e1 e2 e3
      subst e1
      obtain ⟨b, off, rfl, hat⟩ := h5 (by omega)
      obtain ⟨x, hx⟩ : ∃ x, xs[k]? = some x := ⟨_, List.getElem?_eq_getElem (by omega)⟩
      have hs := hat k x hx
      obtain ⟨As, cps, hsv, hsm, _⟩ := hs.s
      obtain ⟨Ap, cp, hpv, hpm, _⟩ := hs.p
      have c1 := hs.c1
      have c2 := hs.c2
      have hss := hs.s
      rw [hsv] at c1 hss
      rw [hpv] at c2
      obtain ⟨ns, hns⟩ : ∃ ns, ns = x.ss.length := ⟨_, rfl⟩
      obtain ⟨np, hnp⟩ : ∃ np, np = x.ps.length := ⟨_, rfl⟩
      rw [← hns] at c1 hss
      rw [← hnp] at c2
      have hp9 : np ≤ 9223372036854775807 := by simp only [maxLen] at hpm; omega
      have HL := Lib.hid (lfew_any hss 12 (by omega))
      have HY := Lib.hid (And.intro hx (And.intro hns hnp))
      have hi0 : (0 : Int) ≤ (k : Int) := by omega
      have hi1 : (k : Int) < (n : Int) := by omega
      clear e2 e3 h5 hat hx hs hsv hsm hpv hpm hns hnp hss
      go_wp2_with fail
      refine HL.out.mono ?_
      rintro en w2 ⟨⟨bb, rfl, hbb⟩, rfl⟩
      have HB := Lib.hid hbb
      clear hbb HL
      cases bb with
      | false =>
        go_wp2_with fail
        refine (known_any _).mono ?_
        rintro e wk ⟨rfl, fk⟩
        have HK := Lib.hid (fk)
        clear fk
        go_wp2_with fail
        go_ret
        exact ⟨rfl, HK.out⟩
      | true =>
        by_cases a1 : (300 : Int) < (np : Int)
        · go_wp2_with fail
          refine (known_any _).mono ?_
          rintro e wk ⟨rfl, fk⟩
          have HK := Lib.hid (fk)
          clear fk
          go_wp2_with fail
          go_ret
          exact ⟨rfl, HK.out⟩
        · go_wp2_with fail
          refine ⟨⟨k + 1, by norm_cast, by omega, Lib.hid (fun j y hj hy => ?_)⟩, ?_⟩
          · by_cases hjk : j < k
            · exact HV.out j y hjk hy
            · have : j = k := by omega
              subst this
              rw [HY.out.1] at hy
              injection hy with hy
              subst hy
              have h6 := HB.out.1 trivial
              exact ⟨h6.1, h6.2, by have := HY.out.2.2; omega⟩
          · simp only [intOf]
            omega
    · have hkn : n = k := by omega
      subst hkn
      go_wp2_with fail
      have HNW := anew_any w (n := z + 2) (by omega) (by omega)
      rw [show ((z + 2 : Nat) : Int) = (z : Int) + 2 by omega] at HNW
      refine HNW.mono ?_
      rintro en w1 ⟨g, P1, rfl, hd1, f1⟩
      obtain ⟨k1, k2⟩ := RI.new (N := z + 2) (z := z) (by omega)
      have HFM := Lib.hid (format_any hd1 (fun j => Nat.zero_le _) (z := z) h4 (by omega) (by simp [newD]))
      rw [if_pos k1] at HFM
      have H1 := Lib.hid (And.intro hd1 (And.intro f1 k2))
      clear hd1 f1 k1 k2 HNW
      go_wp2_with fail
      refine HFM.out.mono ?_
      rintro en w2 ⟨rfl, ⟨P2, hd2, _⟩, f2⟩
      obtain ⟨P2', hd2', _⟩ := DT.of (S := 0) (P0 := P2) hd2 (fun b q => .inl q)
      have H2 := Lib.hid (And.intro hd2' ((H1.out.2.1.mono (fun _ _ q => q.elim)).trans f2 (fun b _ q => (H1.out.1.2 b q).1) : Fr (fun b => w.heap.size ≤ b) w w2))
      clear hd2 hd2' f2 HFM
      go_wp2_with fail
      go_loopw [8, 9] (fun sl i wr => ∃ (k : Nat) (Pk : Nat → Prop) (dk : DS) (ck sk ek : Nat) (qk : List (Nat × List Chg)), i = .int .i64 k ∧ k ≤ n ∧ Hid (DT wr w.heap.size g dk Pk ∧ RI dk z ck sk qk ek ∧ ck ≤ 1 + 20 * k ∧ RcsV wr 0 sl (qk.map (·.2))) ∧ Hid (Fr (fun b => w.heap.size ≤ b) w wr)) (fun _ i _ => n - (intOf i).toNat)
      case atStart => exact ⟨0, P2', _, 1, 1, 0, [], rfl, Nat.zero_le _, Lib.hid ⟨H2.out.1, H1.out.2.2, Nat.le_refl _, RcsV.nil _ _⟩, Lib.hid H2.out.2⟩
      case round =>
        obtain ⟨k, Pk, dk, ck, sk, ek, qk, rfl, hk, HI, HF⟩ := hrel
        obtain ⟨As, cs, hse, _⟩ := HI.out.2.2.2.form
        subst hse
        obtain ⟨ns, hns⟩ : ∃ ns, ns = (qk.map (·.2)).length := ⟨_, rfl⟩
        rw [← hns] at HI ⊢
        clear hns
        by_cases hlt : k < n
        · obtain ⟨A0, cap0, e0, _, h5⟩ := HX.out
          injection e0 with e1 e2 e3
          subst e1
          obtain ⟨b, off, rfl, hat⟩ := h5 (by omega)
          obtain ⟨x, hx⟩ : ∃ x, xs[k]? = some x := ⟨_, List.getElem?_eq_getElem (by omega)⟩
          have hs := hat k x hx
          obtain ⟨As2, cps2, hsv, hsm, _⟩ := hs.s
          obtain ⟨Ap2, cp2, hpv, hpm, _⟩ := hs.p
          obtain ⟨ns2, hns2⟩ : ∃ ns2, ns2 = x.ss.length := ⟨_, rfl⟩
          obtain ⟨np2, hnp2⟩ : ∃ np2, np2 = x.ps.length := ⟨_, rfl⟩
          rw [← hns2] at hsv
          rw [← hnp2] at hpv
          have HSV := Lib.hid hsv
          have HPV := Lib.hid hpv
          have HLA := Lib.hid hs
          have HOK := Lib.hid (HV.out k x (by omega) hx)
          have hi0 : (0 : Int) ≤ (k : Int) := by omega
          have hi1 : (k : Int) < (n : Int) := by omega
          have hso := hs.old (Nat.le_refl _) HF.out
          have c0 := hso.c0
          have c1 := hso.c1
          rw [hsv] at c1
          have hf1 := hs.f1
          obtain ⟨fu, hfu⟩ : ∃ fu, fu = x.fu := ⟨_, rfl⟩
          rw [← hfu] at c0 hf1
          clear e2 e3 h5 hat hx hs hsv hpv hsm hpm hso hns2 hnp2 hfu
          by_cases hf : fu < 0
          · have hf' : ¬ (0 : Int) ≤ fu := by omega
            have HI2 := Lib.hid (And.intro HI.out.1 (And.intro HI.out.2.1 (And.intro HI.out.2.2.2 HF.out)))
            go_wp2_with fail
            refine (live_any (K := ck + 14) HI2.out.1 HI2.out.2.1 h4 (by omega) (sv := .slice As2 ns2 cps2) (xs := x.ss) (fun w' f => by
              have q := (HLA.out.old (Nat.le_refl _) (HI2.out.2.2.2.trans f (fun _ _ q => q))).s
              rw [HSV.out] at q
              exact q) HOK.out.1 HOK.out.2.1 (by have h1 := HI.out.2.2.1; have h2 := hk; have h3 := hn6; simp only [maxC]; omega) (Nat.le_refl _) HI2.out.2.2.1 (by have := HI2.out.2.1.few; omega) HI2.out.2.2.2.size).mono ?_
            rintro en w3 ⟨vm, ms, rfl, hms, ⟨P3, d3, hd3, haf, hmo⟩, f3⟩
            have hF3 : Fr (fun b => w.heap.size ≤ b) w w3 := HI2.out.2.2.2.trans f3 (fun _ _ q => q)
            have hl3 := HLA.out.old (Nat.le_refl _) hF3
            have c2 := hl3.c2
            rw [HPV.out] at c2
            have HCR := Lib.hid (acrash_p1 hd3.1 (vp := .slice Ap2 np2 cp2) (picks := x.ps) (by have q := hl3.p; rw [HPV.out] at q; exact q) (fun b hb hp0 q => by
              have h1 := HLA.out.pl b (by rw [HPV.out]; exact hb) hp0
              have h2 := (hd3.1.2 b q).1
              omega) hmo)
            obtain ⟨bm, cm, hvm, hm2, hbm, hm⟩ := hms
            subst hvm
            obtain ⟨nm, hnm⟩ : ∃ nm, nm = ms.length := ⟨_, rfl⟩
            have hms : MsV w3 (.slice (some ⟨bm, 0, none⟩) ms.length ms.length) ms := ⟨bm, cm, rfl, hm2, hbm, hm⟩
            obtain ⟨c5, s5, q5, e5, hc5, hr5, hq5⟩ := haf x.ps
            have H3 := Lib.hid (And.intro hd3 (And.intro hms (And.intro hF3 (And.intro hnm hm))))
            have H5 := Lib.hid (And.intro hc5 (And.intro hr5 hq5))
            rw [← hnm]
            have hm9 : nm ≤ 9223372036854775807 := by
              exact hnm ▸ Nat.le_trans hm2 (by omega)
            clear hms hd3 haf hmo f3 hF3 hl3 hbm hm hm2 hnm hc5 hr5 hq5 c0 c1
            go_wp2_with fail
            refine HCR.out.mono ?_
            rintro en w4 ⟨rfl, hd4, f4⟩
            obtain ⟨P4, hd4', _⟩ := DT.of (S := 0) (P0 := P3) hd4 (fun b q => .inl q)
            have hms4 := H3.out.2.1.disk H3.out.1 f4
            have hF4 : Fr (fun b => w.heap.size ≤ b) w w4 := H3.out.2.2.1.trans f4 (fun b _ q => (H3.out.1.1.2 b q).1)
            have HO := Lib.hid (ropen_any hd4' H5.out.2.1 h4 (by omega) (by have h0 := H5.out.1; have h1 := HI.out.2.2.1; have h2 := hk; have h3 := hn6; simp only [maxC]; omega))
            have H4 := Lib.hid (And.intro hd4' (And.intro hms4 hF4))
            clear hd4 hd4' f4 hms4 hF4 HCR c2
            go_wp2_with fail
            refine HO.out.mono ?_
            rintro en w5 ⟨_, o2, ⟨P5, hd5, _⟩, f5⟩
            have hok5 := (settle_free (crash_free d3 x.ps) 0 [hdS (c5 + 1) s5]).1
            obtain ⟨lb, v5, rfl, _, _, hv5⟩ := o2 hok5
            obtain ⟨A5, cp5, hve, _⟩ := hv5.form
            subst hve
            obtain ⟨n5, hn5⟩ : ∃ n5, n5 = (q5.map (·.2)).length := ⟨_, rfl⟩
            rw [← hn5] at hv5 ⊢
            have HL5 := Lib.hid (And.intro hd5 (And.intro (LifeS.opens (K := c5 + 1) H5.out.2.1 (by have h0 := H5.out.1; have h1 := HI.out.2.2.1; have h2 := hk; have h3 := hn6; simp only [maxC]; omega) (Nat.le_refl _) hok5) (And.intro hv5 (And.intro (H4.out.2.1.disk H4.out.1 f5) (H4.out.2.2.trans f5 (fun b _ q => (H4.out.1.1.2 b q).1))))))
            clear hd5 hv5 f5 hok5 hn5 o2 HO
            go_wp2_with fail
            go_loopw [15, 16] (fun is kk wr => ∃ (j : Nat) (t : Bool), kk = .int .i64 j ∧ is = .bool t ∧ j ≤ nm ∧ Hid (t = true ↔ q5.map (·.2) ∈ ms.take j) ∧ Hid (Fr (fun _ => False) w5 wr)) (fun _ kk _ => nm - (intOf kk).toNat)
            case atStart => exact ⟨0, false, rfl, rfl, Nat.zero_le _, Lib.hid (by simp), Lib.hid (Fr.refl _ _)⟩
            case round =>
              obtain ⟨j, t, rfl, rfl, hj, HT, HG⟩ := hrel
              by_cases hjl : j < nm
              · have hmsr := HL5.out.2.2.2.1.new HG.out
                have hj0 : (0 : Int) ≤ (j : Int) := by omega
                have hj1 : (j : Int) < (nm : Int) := by omega
                obtain ⟨mj, hmj⟩ : ∃ mj, ms[j]? = some mj := ⟨_, List.getElem?_eq_getElem (by have := H3.out.2.2.2.1; omega)⟩
                have htk : ms.take (j + 1) = ms.take j ++ [mj] := by
                  rw [List.take_add_one, hmj]
                  rfl
                cases t with
                | true =>
                  have HN1 := Lib.hid (show (true = true ↔ q5.map (·.2) ∈ ms.take (j + 1)) from ⟨fun _ => by rw [htk]; exact List.mem_append_left _ (HT.out.1 rfl), fun _ => rfl⟩)
                  clear htk hmj hmsr
                  go_wp2_with fail
                  refine ⟨⟨j + 1, true, by norm_cast, rfl, by omega, HN1, HG⟩, ?_⟩
                  simp only [intOf]
                  omega
                | false =>
                  obtain ⟨bm', cm', e1, _, _, hmm⟩ := hmsr
                  injection e1 with e1
                  injection e1 with e1
                  injection e1 with e1
                  subst e1
                  obtain ⟨u, hu1, hu2⟩ := hmm j mj hmj
                  obtain ⟨Au, cu, hue, _⟩ := hu2.form
                  subst hue
                  obtain ⟨nu, hnu⟩ : ∃ nu, nu = mj.length := ⟨_, rfl⟩
                  rw [← hnu] at hu1 hu2
                  have HS := Lib.hid (rall_any (HL5.out.2.2.1.stay HG.out (fun _ _ q => q)).rd hu2.rd)
                  have HN1 := Lib.hid (show (decide (q5.map (·.2) = mj) = true ↔ q5.map (·.2) ∈ ms.take (j + 1)) from by
                    rw [htk, List.mem_append, List.mem_singleton, decide_eq_true_eq]
                    exact ⟨fun q => .inr q, fun q => q.resolve_left (fun q' => by have := HT.out.2 q'; cases this)⟩)
                  generalize decide (q5.map (·.2) = mj) = t2 at HS HN1
                  clear htk hmj hmm hu2 hnu
                  go_wp2_with fail
                  refine HS.out.mono ?_
                  rintro en w6 ⟨rfl, f6⟩
                  have HG6 := Lib.hid (HG.out.trans f6 (fun _ _ q => q))
                  clear f6
                  go_wp2_with fail
                  refine ⟨⟨j + 1, t2, by norm_cast, rfl, by omega, HN1, HG6⟩, ?_⟩
                  simp only [intOf]
                  omega
              · have hjn : nm = j := by omega
                subst hjn
                have ht : t = true := HT.out.2 (by rw [H3.out.2.2.2.1, List.take_length]; exact H5.out.2.2)
                subst ht
                clear hjl
                go_wp2_with fail
                obtain ⟨P7, hd7⟩ := HL5.out.1.new HG.out
                refine ⟨⟨k + 1, P7, _, c5 + 1, s5, e5, q5, by norm_cast, by omega, Lib.hid ⟨hd7, HL5.out.2.1.ri, by have h0 := H5.out.1; have h1 := HI.out.2.2.1; omega, (HL5.out.2.2.1.stay HG.out (fun _ _ q => q)).zero⟩, Lib.hid (HL5.out.2.2.2.2.trans HG.out (fun _ _ q => q.elim))⟩, ?_⟩
                simp only [intOf]
                omega
          · have hf' : (0 : Int) ≤ fu := by omega
            go_wp2_with fail
            refine (afuse_any HI.out.1.1 fu (by omega) hf1).mono ?_
            rintro en wf ⟨rfl, hdf, ff⟩
            obtain ⟨Pf, hdf', _⟩ := DT.of (S := 0) (P0 := Pk) hdf (fun b q => .inl q)
            have HFF := Lib.hid (HF.out.trans ff (fun b _ q => (HI.out.1.1.2 b q).1))
            have HI2 := Lib.hid (And.intro hdf' (And.intro (HI.out.2.1.same (d' := { dk with fu := true, lf := fu }) rfl HI.out.2.1.vs) (And.intro (HI.out.2.2.2.disk HI.out.1 ff) HFF.out)))
            have hso := HLA.out.old (Nat.le_refl _) HFF.out
            have c0 := hso.c0
            have c1 := hso.c1
            rw [HSV.out] at c1
            clear hso hdf hdf' ff
            go_wp2_with fail
            refine (live_any (K := ck + 14) HI2.out.1 HI2.out.2.1 h4 (by omega) (sv := .slice As2 ns2 cps2) (xs := x.ss) (fun w' f => by
              have q := (HLA.out.old (Nat.le_refl _) (HI2.out.2.2.2.trans f (fun _ _ q => q))).s
              rw [HSV.out] at q
              exact q) HOK.out.1 HOK.out.2.1 (by have h1 := HI.out.2.2.1; have h2 := hk; have h3 := hn6; simp only [maxC]; omega) (Nat.le_refl _) HI2.out.2.2.1 (by have := HI2.out.2.1.few; omega) HI2.out.2.2.2.size).mono ?_
            rintro en w3 ⟨vm, ms, rfl, hms, ⟨P3, d3, hd3, haf, hmo⟩, f3⟩
            have hF3 : Fr (fun b => w.heap.size ≤ b) w w3 := HI2.out.2.2.2.trans f3 (fun _ _ q => q)
            have hl3 := HLA.out.old (Nat.le_refl _) hF3
            have c2 := hl3.c2
            rw [HPV.out] at c2
            have HCR := Lib.hid (acrash_p1 hd3.1 (vp := .slice Ap2 np2 cp2) (picks := x.ps) (by have q := hl3.p; rw [HPV.out] at q; exact q) (fun b hb hp0 q => by
              have h1 := HLA.out.pl b (by rw [HPV.out]; exact hb) hp0
              have h2 := (hd3.1.2 b q).1
              omega) hmo)
            obtain ⟨bm, cm, hvm, hm2, hbm, hm⟩ := hms
            subst hvm
            obtain ⟨nm, hnm⟩ : ∃ nm, nm = ms.length := ⟨_, rfl⟩
            have hms : MsV w3 (.slice (some ⟨bm, 0, none⟩) ms.length ms.length) ms := ⟨bm, cm, rfl, hm2, hbm, hm⟩
            obtain ⟨c5, s5, q5, e5, hc5, hr5, hq5⟩ := haf x.ps
            have H3 := Lib.hid (And.intro hd3 (And.intro hms (And.intro hF3 (And.intro hnm hm))))
            have H5 := Lib.hid (And.intro hc5 (And.intro hr5 hq5))
            rw [← hnm]
            have hm9 : nm ≤ 9223372036854775807 := by
              exact hnm ▸ Nat.le_trans hm2 (by omega)
            clear hms hd3 haf hmo f3 hF3 hl3 hbm hm hm2 hnm hc5 hr5 hq5 c0 c1
            go_wp2_with fail
            refine HCR.out.mono ?_
            rintro en w4 ⟨rfl, hd4, f4⟩
            obtain ⟨P4, hd4', _⟩ := DT.of (S := 0) (P0 := P3) hd4 (fun b q => .inl q)
            have hms4 := H3.out.2.1.disk H3.out.1 f4
            have hF4 : Fr (fun b => w.heap.size ≤ b) w w4 := H3.out.2.2.1.trans f4 (fun b _ q => (H3.out.1.1.2 b q).1)
            have HO := Lib.hid (ropen_any hd4' H5.out.2.1 h4 (by omega) (by have h0 := H5.out.1; have h1 := HI.out.2.2.1; have h2 := hk; have h3 := hn6; simp only [maxC]; omega))
            have H4 := Lib.hid (And.intro hd4' (And.intro hms4 hF4))
            clear hd4 hd4' f4 hms4 hF4 HCR c2
            go_wp2_with fail
            refine HO.out.mono ?_
            rintro en w5 ⟨_, o2, ⟨P5, hd5, _⟩, f5⟩
            have hok5 := (settle_free (crash_free d3 x.ps) 0 [hdS (c5 + 1) s5]).1
            obtain ⟨lb, v5, rfl, _, _, hv5⟩ := o2 hok5
            obtain ⟨A5, cp5, hve, _⟩ := hv5.form
            subst hve
            obtain ⟨n5, hn5⟩ : ∃ n5, n5 = (q5.map (·.2)).length := ⟨_, rfl⟩
            rw [← hn5] at hv5 ⊢
            have HL5 := Lib.hid (And.intro hd5 (And.intro (LifeS.opens (K := c5 + 1) H5.out.2.1 (by have h0 := H5.out.1; have h1 := HI.out.2.2.1; have h2 := hk; have h3 := hn6; simp only [maxC]; omega) (Nat.le_refl _) hok5) (And.intro hv5 (And.intro (H4.out.2.1.disk H4.out.1 f5) (H4.out.2.2.trans f5 (fun b _ q => (H4.out.1.1.2 b q).1))))))
            clear hd5 hv5 f5 hok5 hn5 o2 HO
            go_wp2_with fail
            go_loopw [15, 16] (fun is kk wr => ∃ (j : Nat) (t : Bool), kk = .int .i64 j ∧ is = .bool t ∧ j ≤ nm ∧ Hid (t = true ↔ q5.map (·.2) ∈ ms.take j) ∧ Hid (Fr (fun _ => False) w5 wr)) (fun _ kk _ => nm - (intOf kk).toNat)
            case atStart => exact ⟨0, false, rfl, rfl, Nat.zero_le _, Lib.hid (by simp), Lib.hid (Fr.refl _ _)⟩
            case round =>
              obtain ⟨j, t, rfl, rfl, hj, HT, HG⟩ := hrel
              by_cases hjl : j < nm
              · have hmsr := HL5.out.2.2.2.1.new HG.out
                have hj0 : (0 : Int) ≤ (j : Int) := by omega
                have hj1 : (j : Int) < (nm : Int) := by omega
                obtain ⟨mj, hmj⟩ : ∃ mj, ms[j]? = some mj := ⟨_, List.getElem?_eq_getElem (by have := H3.out.2.2.2.1; omega)⟩
                have htk : ms.take (j + 1) = ms.take j ++ [mj] := by
                  rw [List.take_add_one, hmj]
                  rfl
                cases t with
                | true =>
                  have HN1 := Lib.hid (show (true = true ↔ q5.map (·.2) ∈ ms.take (j + 1)) from ⟨fun _ => by rw [htk]; exact List.mem_append_left _ (HT.out.1 rfl), fun _ => rfl⟩)
                  clear htk hmj hmsr
                  go_wp2_with fail
                  refine ⟨⟨j + 1, true, by norm_cast, rfl, by omega, HN1, HG⟩, ?_⟩
                  simp only [intOf]
                  omega
                | false =>
                  obtain ⟨bm', cm', e1, _, _, hmm⟩ := hmsr
                  injection e1 with e1
                  injection e1 with e1
                  injection e1 with e1
                  subst e1
                  obtain ⟨u, hu1, hu2⟩ := hmm j mj hmj
                  obtain ⟨Au, cu, hue, _⟩ := hu2.form
                  subst hue
                  obtain ⟨nu, hnu⟩ : ∃ nu, nu = mj.length := ⟨_, rfl⟩
                  rw [← hnu] at hu1 hu2
                  have HS := Lib.hid (rall_any (HL5.out.2.2.1.stay HG.out (fun _ _ q => q)).rd hu2.rd)
                  have HN1 := Lib.hid (show (decide (q5.map (·.2) = mj) = true ↔ q5.map (·.2) ∈ ms.take (j + 1)) from by
                    rw [htk, List.mem_append, List.mem_singleton, decide_eq_true_eq]
                    exact ⟨fun q => .inr q, fun q => q.resolve_left (fun q' => by have := HT.out.2 q'; cases this)⟩)
                  generalize decide (q5.map (·.2) = mj) = t2 at HS HN1
                  clear htk hmj hmm hu2 hnu
                  go_wp2_with fail
                  refine HS.out.mono ?_
                  rintro en w6 ⟨rfl, f6⟩
                  have HG6 := Lib.hid (HG.out.trans f6 (fun _ _ q => q))
                  clear f6
                  go_wp2_with fail
                  refine ⟨⟨j + 1, t2, by norm_cast, rfl, by omega, HN1, HG6⟩, ?_⟩
                  simp only [intOf]
                  omega
              · have hjn : nm = j := by omega
                subst hjn
                have ht : t = true := HT.out.2 (by rw [H3.out.2.2.2.1, List.take_length]; exact H5.out.2.2)
                subst ht
                clear hjl
                go_wp2_with fail
                obtain ⟨P7, hd7⟩ := HL5.out.1.new HG.out
                refine ⟨⟨k + 1, P7, _, c5 + 1, s5, e5, q5, by norm_cast, by omega, Lib.hid ⟨hd7, HL5.out.2.1.ri, by have h0 := H5.out.1; have h1 := HI.out.2.2.1; omega, (HL5.out.2.2.1.stay HG.out (fun _ _ q => q)).zero⟩, Lib.hid (HL5.out.2.2.2.2.trans HG.out (fun _ _ q => q.elim))⟩, ?_⟩
                simp only [intOf]
                omega
        · have hkn : n = k := by omega
          subst hkn
          clear hlt
          go_wp2_with fail
          refine (known_any _).mono ?_
          rintro e wk ⟨rfl, fk⟩
          have HK := Lib.hid (show Fr (fun _ => False) w wk from (HF.out.trans fk (fun _ _ q => q.elim)).mono (fun b hb q => by omega))
          clear fk
          go_wp2_with fail
          go_ret
          exact ⟨rfl, HK.out⟩
end Go.Proofs.Ytobnfadcffhfdaa
