/- math/bits' Div64, walked; roundDown. -/
import Derived.Test.YtfonchobolhkoaaDoorFdq
namespace Go.Proofs.YtfonchobolhkoaaDoor
open Go.RowKit

set_option maxRecDepth 100000 in
set_option maxHeartbeats 1000000 in
/-- The high word is nought: two plain operations. -/
theorem div_low {lo y : Nat} (hl : lo < 18446744073709551616) (hy : y < 18446744073709551616) (h0 : 0 < y) (w : World) :
    Calls Tryd.prog 40 #[.int .u64 0, .int .u64 (lo : Nat), .int .u64 (y : Nat)] w fun e w' => e = .returned (.tuple #[.int .u64 ((lo / y : Nat) : Int), .int .u64 ((lo % y : Nat) : Int)]) ∧ Fr (fun _ => False) w w' := by
  have hyn : ((y : Int) == 0) = false := by rw [beq_eq_false_iff_ne]; omega
  have hyle : ¬ (y : Int) ≤ 0 := by omega
  have hq : IntKind.u64.wrap ((lo : Int) / (y : Int)) = ((lo / y : Nat) : Int) := by
    rw [show (lo : Int) / (y : Int) = ((lo / y : Nat) : Int) from rfl]
    have := Nat.div_le_self lo y
    generalize lo / y = q at *
    rw [IntKind.wrap_u64]
    omega
  have HQ := Lib.hid hq
  clear hq hl hy h0
  go_enter Tryd.func40, Tryd.ntmps40
  go_wp2_with fail
  go_region
  go_wp2_with fail
  go_ret2
  refine ⟨?_, (Fr.refl _ _).drew⟩
  show Ending.returned (.tuple #[.int .u64 (IntKind.u64.wrap ((lo : Int) / (y : Int))), .int .u64 ((lo : Int) % (y : Int))]) = _
  rw [HQ.out]
  rfl
theorem lz_any (y : Nat) (hy : y < 18446744073709551616) (w : World) : Calls Tryd.prog 47 #[.int .u64 (y : Nat)] w fun e w' => e = .returned (.int .i64 (64 - (Lib.bitLen y : Int))) ∧ w' = w := by
  have h := Any.bits_LeadingZeros64 Tryd.layLz (y : Int) w (by omega) (by omega)
  rw [Int.toNat_natCast] at h
  exact h
theorem quo_w {a b : Nat} (ha : a < 18446744073709551616) : IntKind.u64.wrap ((a : Int).tdiv (b : Int)) = ((a / b : Nat) : Int) := by
  rw [Int.tdiv_eq_ediv_of_nonneg (by omega), show (a : Int) / (b : Int) = ((a / b : Nat) : Int) from rfl]
  exact w64 (Nat.lt_of_le_of_lt (Nat.div_le_self a b) ha)
theorem two_digs {U L B : Nat} : U * (B * B) + L = (U * B + L / B) * B + L % B := by
  rw [Nat.add_mul, Nat.add_assoc, Nat.mul_comm (L / B), Nat.div_add_mod, Nat.mul_assoc]
set_option maxRecDepth 100000 in
set_option maxHeartbeats 4000000 in
theorem div_high {hi lo y s : Nat} (hh : 0 < hi) (hl : lo < 18446744073709551616) (hy : y < 18446744073709551616) (hhy : hi < y) (hs2 : (64 - (Lib.bitLen y : Int)) = (s : Int)) (hs1 : s ≤ 63) (hY1 : 9223372036854775808 ≤ y * 2 ^ s) (hY2 : y * 2 ^ s < 18446744073709551616) (w : World) :
    Calls Tryd.prog 40 #[.int .u64 (hi : Nat), .int .u64 (lo : Nat), .int .u64 (y : Nat)] w fun e w' => e = .returned (.tuple #[.int .u64 (((hi * 18446744073709551616 + lo) / y : Nat) : Int), .int .u64 (((hi * 18446744073709551616 + lo) % y : Nat) : Int)]) ∧ Fr (fun _ => False) w w' := by
  have hyn : ((y : Int) == 0) = false := by rw [beq_eq_false_iff_ne]; omega
  have hin : ((hi : Int) == 0) = false := by rw [beq_eq_false_iff_ne]; omega
  have hyle : ¬ (y : Int) ≤ (hi : Int) := by omega
  have HL := Lib.hid (lz_any y hy)
  rw [hs2] at HL
  obtain ⟨n1, n2, n3⟩ := dv_nums hl hhy hs1 hY2
  have EY := shl_w hY2
  have EH := shl_w (a := hi) (s := s) (Nat.lt_of_le_of_lt (Nat.le_add_right _ _) (Nat.lt_trans n2 hY2))
  have ES : (lo : Int) / 2 ^ (64 - s) = ((lo / 2 ^ (64 - s) : Nat) : Int) := by push_cast; rfl
  have EO := or_w (a := hi) n3 (Nat.lt_trans n2 hY2)
  have EL := shl_m lo s
  have hfin1 := (dv_scale (n := hi * 18446744073709551616 + lo) (y := y) s).1
  have hfin2 := (dv_scale (n := hi * 18446744073709551616 + lo) (y := y) s).2
  rw [← n1] at hfin1 hfin2
  have hLb : lo * 2 ^ s % 18446744073709551616 < 18446744073709551616 := Nat.mod_lt _ (by omega)
  obtain ⟨Y, hY⟩ : ∃ Y, Y = y * 2 ^ s := ⟨_, rfl⟩
  obtain ⟨U, hU⟩ : ∃ U, U = hi * 2 ^ s + lo / 2 ^ (64 - s) := ⟨_, rfl⟩
  obtain ⟨L, hL⟩ : ∃ L, L = lo * 2 ^ s % 18446744073709551616 := ⟨_, rfl⟩
  obtain ⟨H, hH⟩ : ∃ H, H = hi * 2 ^ s := ⟨_, rfl⟩
  obtain ⟨G, hG⟩ : ∃ G, G = lo / 2 ^ (64 - s) := ⟨_, rfl⟩
  rw [← hY] at EY hfin1 hfin2 n2 hY1 hY2
  rw [← hU] at EO hfin1 hfin2 n2
  rw [← hL] at EL hfin1 hfin2 hLb
  rw [← hH] at EH EO
  rw [← hG] at ES EO
  obtain ⟨y1, hy1⟩ : ∃ y1, y1 = Y / 4294967296 := ⟨_, rfl⟩
  obtain ⟨y0, hy0⟩ : ∃ y0, y0 = Y % 4294967296 := ⟨_, rfl⟩
  obtain ⟨u1, hu1⟩ : ∃ u1, u1 = L / 4294967296 := ⟨_, rfl⟩
  obtain ⟨u0, hu0⟩ : ∃ u0, u0 = L % 4294967296 := ⟨_, rfl⟩
  have hUL : U * 18446744073709551616 + L = (U * 4294967296 + u1) * 4294967296 + u0 := by rw [hu1, hu0]; exact two_digs (B := 4294967296)
  rw [hUL] at hfin1 hfin2
  have hd1 : DvH Y y1 y0 U u1 := ⟨by omega, by omega, by omega, by omega, n2, by omega⟩
  have E9 : (Y : Int) / 4294967296 = (y1 : Int) := by omega
  have E10 : bits .and .u64 (Y : Int) 4294967295 = (y0 : Int) := by rw [Mul64.maskN Y hY2, hy0]
  have E13 : (L : Int) / 4294967296 = (u1 : Int) := by omega
  have E14 : bits .and .u64 (L : Int) 4294967295 = (u0 : Int) := by rw [Mul64.maskN L hLb, hu0]
  have hYp : 0 < Y := by omega
  obtain ⟨Q1, hQ1⟩ : ∃ Q1, Q1 = (U * 4294967296 + u1) / Y := ⟨_, rfl⟩
  obtain ⟨R, hR⟩ : ∃ R, R = (U * 4294967296 + u1) % Y := ⟨_, rfl⟩
  have hRY : R < Y := by rw [hR]; exact Nat.mod_lt _ hYp
  have hd2 : DvH Y y1 y0 R u0 := ⟨hd1.hy, hd1.h0, hd1.h1, hd1.hh, hRY, by omega⟩
  obtain ⟨Q0, hQ0⟩ : ∃ Q0, Q0 = (R * 4294967296 + u0) / Y := ⟨_, rfl⟩
  obtain ⟨S, hS⟩ : ∃ S, S = (R * 4294967296 + u0) % Y := ⟨_, rfl⟩
  have hSY : S < Y := by rw [hS]; exact Nat.mod_lt _ hYp
  have hr1 := dv_rest hQ1
  have hr2 := dv_rest hQ0
  rw [← hR] at hr1
  rw [← hS] at hr2
  have hb1 : Q1 < 4294967296 := by rw [hQ1]; exact dv_lt n2 hd1.hl
  have hb0 : Q0 < 4294967296 := by rw [hQ0]; exact dv_lt hRY hd2.hl
  have htw := dv_two (y := Y) (u := U) (u1 := u1) (u0 := u0) hYp
  rw [← hR, ← hQ1, ← hQ0, ← hS] at htw
  rw [← htw.1] at hfin1
  rw [← htw.2] at hfin2
  have hz1 : IntKind.u64.wrap (IntKind.u64.wrap ((Q1 : Int) * 4294967296) + (Q0 : Int)) = (((hi * 18446744073709551616 + lo) / y : Nat) : Int) := by
    rw [← hfin1, show (Q1 : Int) * 4294967296 = ((Q1 * 4294967296 : Nat) : Int) by omega, w64 (by omega), Mul64.addN]
    exact w64 (by omega)
  have hz2 : IntKind.u64.wrap (IntKind.u64.wrap (IntKind.u64.wrap ((R : Int) * 4294967296) + (u0 : Int)) - IntKind.u64.wrap ((Q0 : Int) * (Y : Int))) / 2 ^ s = (((hi * 18446744073709551616 + lo) % y : Nat) : Int) := by
    rw [Mul64.mulN, rest_w hr2.symm (by omega), ← hfin2]
    push_cast
    rfl
  have ht1 : IntKind.u64.wrap (IntKind.u64.wrap (IntKind.u64.wrap ((U : Int) * 4294967296) + (u1 : Int)) - IntKind.u64.wrap ((Q1 : Int) * (Y : Int))) = (R : Int) := by
    rw [Mul64.mulN]
    exact rest_w hr1.symm (by omega)
  have hn1 := DvI.new hd1
  have hn2 := DvI.new hd2
  obtain ⟨q1, hq1⟩ : ∃ q, q = U / y1 := ⟨_, rfl⟩
  obtain ⟨q2, hq2⟩ : ∃ q, q = R / y1 := ⟨_, rfl⟩
  rw [← hq1] at hn1
  rw [← hq2] at hn2
  obtain ⟨r1, hr1e⟩ : ∃ r, r = U - q1 * y1 := ⟨_, rfl⟩
  obtain ⟨r2, hr2e⟩ : ∃ r, r = R - q2 * y1 := ⟨_, rfl⟩
  rw [← hr1e] at hn1
  rw [← hr2e] at hn2
  have E15 : IntKind.u64.wrap ((U : Int).tdiv (y1 : Int)) = (q1 : Int) := by rw [hq1]; exact quo_w (by omega)
  have E16 : IntKind.u64.wrap ((U : Int) - IntKind.u64.wrap ((q1 : Int) * (y1 : Int))) = (r1 : Int) := by
    have hle : q1 * y1 ≤ U := by rw [hq1]; exact Nat.div_mul_le_self U y1
    rw [Mul64.mulN, w64 (by omega), hr1e]
    exact sub_w hle (by omega)
  have E18 : IntKind.u64.wrap ((R : Int).tdiv (y1 : Int)) = (q2 : Int) := by rw [hq2]; exact quo_w (by omega)
  have E19 : IntKind.u64.wrap ((R : Int) - IntKind.u64.wrap ((q2 : Int) * (y1 : Int))) = (r2 : Int) := by
    have hle : q2 * y1 ≤ R := by rw [hq2]; exact Nat.div_mul_le_self R y1
    rw [Mul64.mulN, w64 (by omega), hr2e]
    exact sub_w hle (by omega)
  have HH1 := Lib.hid hd1
  have HH2 := Lib.hid hd2
  have HQ1 := Lib.hid hQ1
  have HQ2 := Lib.hid hQ0
  have HI1 := Lib.hid hn1
  have HI_2 := Lib.hid hn2
  have HZ := Lib.hid (And.intro hz1 hz2)
  have HT := Lib.hid (And.intro ht1 (And.intro E18 E19))
  have hdz : ¬ IntKind.u64.wrap ((y : Int) * 2 ^ s) / 4294967296 = 0 := by rw [EY, E9]; have := hd1.hh; omega
  have hy1n : ¬ (y1 : Int) = 0 := by have := hd1.hh; omega
  have HE := Lib.hid (And.intro EY (And.intro EH (And.intro ES (And.intro EO (And.intro EL (And.intro E9 (And.intro E10 (And.intro E13 (And.intro E14 (And.intro E15 E16))))))))))
  clear EY EH ES EO EL E9 E10 E13 E14 E15 E16 E18 E19 hz1 hz2 ht1 hd1 hd2 hQ1 hQ0 hn1 hn2 hq1 hq2 hr1e hr2e hr1 hr2 hb1 hb0 htw hfin1 hfin2 hRY hSY hS hR hYp hUL hu0 hu1 hy0 hy1 hG hH hL hU hY n1 n2 n3 hLb hY1 hY2 hs2 hhy hl hy hh
  go_enter Tryd.func40, Tryd.ntmps40
  go_wp2_with fail
  refine (HL.out _).mono ?_
  rintro e w1 ⟨rfl, rfl⟩
  go_wp2_with fail
  simp only [HE.out.1, HE.out.2.1, HE.out.2.2.1, HE.out.2.2.2.1, HE.out.2.2.2.2.1, HE.out.2.2.2.2.2.1, HE.out.2.2.2.2.2.2.1, HE.out.2.2.2.2.2.2.2.1, HE.out.2.2.2.2.2.2.2.2.1, HE.out.2.2.2.2.2.2.2.2.2.1, HE.out.2.2.2.2.2.2.2.2.2.2]
  clear HE hdz HL hyn hin hyle
  go_loopw [15, 16] (fun x z wq => wq = w1 ∧ ∃ q r : Nat, x = .int .u64 q ∧ z = .int .u64 r ∧ Hid (DvI Y y1 y0 U u1 q r)) (fun x _ _ => (intOf x).toNat)
  case atStart => exact ⟨rfl, q1, r1, rfl, rfl, HI1⟩
  case round =>
    clear HI1
    obtain ⟨rfl, q, r, rfl, rfl, HI⟩ := hrel
    have hH := HH1.out
    have hI := HI.out
    obtain ⟨f1, f2⟩ := hI.fits hH
    have g1 : IntKind.u64.wrap ((q : Int) * (y0 : Int)) = ((q * y0 : Nat) : Int) := by rw [Mul64.mulN]; exact w64 f1
    have g2 : IntKind.u64.wrap (IntKind.u64.wrap (4294967296 * (r : Int)) + (u1 : Int)) = ((4294967296 * r + u1 : Nat) : Int) := by
      rw [show 4294967296 * (r : Int) = ((4294967296 * r : Nat) : Int) by omega, w64 (by omega), Mul64.addN]
      exact w64 f2
    have g4 : IntKind.u64.wrap ((r : Int) + (y1 : Int)) = ((r + y1 : Nat) : Int) := by
      rw [Mul64.addN]
      exact w64 (by have := hI.lt; have := hH.h1; omega)
    by_cases c1 : 4294967296 ≤ q
    · have hc : 4294967296 ≤ q ∨ 4294967296 * r + u1 < q * y0 := .inl c1
      have c1i : (q : Int) ≥ 4294967296 := by omega
      have hp := hI.pos hH hc
      have g3 : IntKind.u64.wrap ((q : Int) - 1) = ((q - 1 : Nat) : Int) := by
        rw [show (q : Int) - 1 = ((q - 1 : Nat) : Int) by omega]
        exact w64 (by have := hI.le; omega)
      by_cases c3 : 4294967296 ≤ r + y1
      · have c3i : IntKind.u64.wrap ((r : Int) + (y1 : Int)) ≥ 4294967296 := by rw [g4]; omega
        have hq : q - 1 = Q1 := (hI.leave hH hc c3).trans HQ1.out.symm
        rw [hq] at g3
        have HG := Lib.hid g3
        clear hH hI f1 f2 g1 g2 g3 g4 c1 c3 HI hc hp hq
        go_wp2_with fail
        simp only [HG.out, HT.out.1, HT.out.2.1, HT.out.2.2]
        clear HG HT HQ1 HH1
        try clear c1i
        try clear c2i
        try clear c3i
        go_loopw [18, 16] (fun x z wq => wq = wr ∧ ∃ q r : Nat, x = .int .u64 q ∧ z = .int .u64 r ∧ Hid (DvI Y y1 y0 R u0 q r)) (fun x _ _ => (intOf x).toNat)
        case atStart => exact ⟨rfl, q2, r2, rfl, rfl, HI_2⟩
        case round =>
          clear HI_2
          obtain ⟨hwr, q, r, rfl, rfl, HI⟩ := hrel
          subst hwr
          have hH := HH2.out
          have hI := HI.out
          obtain ⟨f1, f2⟩ := hI.fits hH
          have g1 : IntKind.u64.wrap ((q : Int) * (y0 : Int)) = ((q * y0 : Nat) : Int) := by rw [Mul64.mulN]; exact w64 f1
          have g2 : IntKind.u64.wrap (IntKind.u64.wrap (4294967296 * (r : Int)) + (u0 : Int)) = ((4294967296 * r + u0 : Nat) : Int) := by
            rw [show 4294967296 * (r : Int) = ((4294967296 * r : Nat) : Int) by omega, w64 (by omega), Mul64.addN]
            exact w64 f2
          have g4 : IntKind.u64.wrap ((r : Int) + (y1 : Int)) = ((r + y1 : Nat) : Int) := by
            rw [Mul64.addN]
            exact w64 (by have := hI.lt; have := hH.h1; omega)
          by_cases c1 : 4294967296 ≤ q
          · have hc : 4294967296 ≤ q ∨ 4294967296 * r + u0 < q * y0 := .inl c1
            have c1i : (q : Int) ≥ 4294967296 := by omega
            have hp := hI.pos hH hc
            have g3 : IntKind.u64.wrap ((q : Int) - 1) = ((q - 1 : Nat) : Int) := by
              rw [show (q : Int) - 1 = ((q - 1 : Nat) : Int) by omega]
              exact w64 (by have := hI.le; omega)
            by_cases c3 : 4294967296 ≤ r + y1
            · have c3i : IntKind.u64.wrap ((r : Int) + (y1 : Int)) ≥ 4294967296 := by rw [g4]; omega
              have hq : q - 1 = Q0 := (hI.leave hH hc c3).trans HQ2.out.symm
              rw [hq] at g3
              have HG := Lib.hid g3
              clear hH hI f1 f2 g1 g2 g3 g4 c1 c3 HI hc hp hq
              go_wp2_with fail
              go_ret2
              refine ⟨?_, Fr.refl _ _⟩
              show Ending.returned (.tuple #[.int .u64 (IntKind.u64.wrap (IntKind.u64.wrap ((Q1 : Int) * 4294967296) + (IntKind.u64.wrap ((q : Int) - 1) : Int))), .int .u64 (IntKind.u64.wrap (IntKind.u64.wrap (IntKind.u64.wrap ((R : Int) * 4294967296) + (u0 : Int)) - IntKind.u64.wrap ((IntKind.u64.wrap ((q : Int) - 1) : Int) * (Y : Int))) / 2 ^ s)]) = _
              rw [HG.out]
              (rw [HZ.out.1, HZ.out.2]) <;> (first | rfl | (push_cast; done) | (push_cast; rfl))
            · have c3i : ¬ IntKind.u64.wrap ((r : Int) + (y1 : Int)) ≥ 4294967296 := by rw [g4]; omega
              have HI2 := Lib.hid (hI.step hH hc (by omega))
              have HG := Lib.hid (And.intro g3 (And.intro g4 hp))
              clear hH hI f1 f2 g1 g2 g3 g4 c1 c3 HI hc hp
              go_wp2_with fail
              refine ⟨⟨trivial, q - 1, r + y1, by rw [HG.out.1], by rw [HG.out.2.1], HI2⟩, ?_⟩
              rw [HG.out.1]
              simp only [intOf]
              have := HG.out.2.2
              omega
          · have c1i : ¬ (q : Int) ≥ 4294967296 := by omega
            by_cases c2 : 4294967296 * r + u0 < q * y0
            · have hc : 4294967296 ≤ q ∨ 4294967296 * r + u0 < q * y0 := .inr c2
              have c2i : IntKind.u64.wrap ((q : Int) * (y0 : Int)) > IntKind.u64.wrap (IntKind.u64.wrap (4294967296 * (r : Int)) + (u0 : Int)) := by rw [g1, g2]; omega
              have hp := hI.pos hH hc
              have g3 : IntKind.u64.wrap ((q : Int) - 1) = ((q - 1 : Nat) : Int) := by
                rw [show (q : Int) - 1 = ((q - 1 : Nat) : Int) by omega]
                exact w64 (by have := hI.le; omega)
              by_cases c3 : 4294967296 ≤ r + y1
              · have c3i : IntKind.u64.wrap ((r : Int) + (y1 : Int)) ≥ 4294967296 := by rw [g4]; omega
                have hq : q - 1 = Q0 := (hI.leave hH hc c3).trans HQ2.out.symm
                rw [hq] at g3
                have HG := Lib.hid g3
                clear hH hI f1 f2 g1 g2 g3 g4 c1 c3 HI hc hp hq
                go_wp2_with fail
                go_ret2
                refine ⟨?_, Fr.refl _ _⟩
                show Ending.returned (.tuple #[.int .u64 (IntKind.u64.wrap (IntKind.u64.wrap ((Q1 : Int) * 4294967296) + (IntKind.u64.wrap ((q : Int) - 1) : Int))), .int .u64 (IntKind.u64.wrap (IntKind.u64.wrap (IntKind.u64.wrap ((R : Int) * 4294967296) + (u0 : Int)) - IntKind.u64.wrap ((IntKind.u64.wrap ((q : Int) - 1) : Int) * (Y : Int))) / 2 ^ s)]) = _
                rw [HG.out]
                (rw [HZ.out.1, HZ.out.2]) <;> (first | rfl | (push_cast; done) | (push_cast; rfl))
              · have c3i : ¬ IntKind.u64.wrap ((r : Int) + (y1 : Int)) ≥ 4294967296 := by rw [g4]; omega
                have HI2 := Lib.hid (hI.step hH hc (by omega))
                have HG := Lib.hid (And.intro g3 (And.intro g4 hp))
                clear hH hI f1 f2 g1 g2 g3 g4 c1 c3 HI hc hp
                go_wp2_with fail
                refine ⟨⟨trivial, q - 1, r + y1, by rw [HG.out.1], by rw [HG.out.2.1], HI2⟩, ?_⟩
                rw [HG.out.1]
                simp only [intOf]
                have := HG.out.2.2
                omega
            · have c2i : ¬ IntKind.u64.wrap ((q : Int) * (y0 : Int)) > IntKind.u64.wrap (IntKind.u64.wrap (4294967296 * (r : Int)) + (u0 : Int)) := by rw [g1, g2]; omega
              have hq : Q0 = q := HQ2.out.trans (hI.stop hH c2).symm
              subst hq
              clear hH hI f1 f2 g1 g2 g4 c1 c2 HI
              go_wp2_with fail
              go_ret2
              refine ⟨?_, Fr.refl _ _⟩
              show Ending.returned (.tuple #[.int .u64 (IntKind.u64.wrap (IntKind.u64.wrap ((Q1 : Int) * 4294967296) + (Q0 : Int))), .int .u64 (IntKind.u64.wrap (IntKind.u64.wrap (IntKind.u64.wrap ((R : Int) * 4294967296) + (u0 : Int)) - IntKind.u64.wrap ((Q0 : Int) * (Y : Int))) / 2 ^ s)]) = _
              (rw [HZ.out.1, HZ.out.2]) <;> (first | rfl | (push_cast; done) | (push_cast; rfl))
      · have c3i : ¬ IntKind.u64.wrap ((r : Int) + (y1 : Int)) ≥ 4294967296 := by rw [g4]; omega
        have HI2 := Lib.hid (hI.step hH hc (by omega))
        have HG := Lib.hid (And.intro g3 (And.intro g4 hp))
        clear hH hI f1 f2 g1 g2 g3 g4 c1 c3 HI hc hp
        go_wp2_with fail
        refine ⟨⟨trivial, q - 1, r + y1, by rw [HG.out.1], by rw [HG.out.2.1], HI2⟩, ?_⟩
        rw [HG.out.1]
        simp only [intOf]
        have := HG.out.2.2
        omega
    · have c1i : ¬ (q : Int) ≥ 4294967296 := by omega
      by_cases c2 : 4294967296 * r + u1 < q * y0
      · have hc : 4294967296 ≤ q ∨ 4294967296 * r + u1 < q * y0 := .inr c2
        have c2i : IntKind.u64.wrap ((q : Int) * (y0 : Int)) > IntKind.u64.wrap (IntKind.u64.wrap (4294967296 * (r : Int)) + (u1 : Int)) := by rw [g1, g2]; omega
        have hp := hI.pos hH hc
        have g3 : IntKind.u64.wrap ((q : Int) - 1) = ((q - 1 : Nat) : Int) := by
          rw [show (q : Int) - 1 = ((q - 1 : Nat) : Int) by omega]
          exact w64 (by have := hI.le; omega)
        by_cases c3 : 4294967296 ≤ r + y1
        · have c3i : IntKind.u64.wrap ((r : Int) + (y1 : Int)) ≥ 4294967296 := by rw [g4]; omega
          have hq : q - 1 = Q1 := (hI.leave hH hc c3).trans HQ1.out.symm
          rw [hq] at g3
          have HG := Lib.hid g3
          clear hH hI f1 f2 g1 g2 g3 g4 c1 c3 HI hc hp hq
          go_wp2_with fail
          simp only [HG.out, HT.out.1, HT.out.2.1, HT.out.2.2]
          clear HG HT HQ1 HH1
          try clear c1i
          try clear c2i
          try clear c3i
          go_loopw [18, 16] (fun x z wq => wq = wr ∧ ∃ q r : Nat, x = .int .u64 q ∧ z = .int .u64 r ∧ Hid (DvI Y y1 y0 R u0 q r)) (fun x _ _ => (intOf x).toNat)
          case atStart => exact ⟨rfl, q2, r2, rfl, rfl, HI_2⟩
          case round =>
            clear HI_2
            obtain ⟨hwr, q, r, rfl, rfl, HI⟩ := hrel
            subst hwr
            have hH := HH2.out
            have hI := HI.out
            obtain ⟨f1, f2⟩ := hI.fits hH
            have g1 : IntKind.u64.wrap ((q : Int) * (y0 : Int)) = ((q * y0 : Nat) : Int) := by rw [Mul64.mulN]; exact w64 f1
            have g2 : IntKind.u64.wrap (IntKind.u64.wrap (4294967296 * (r : Int)) + (u0 : Int)) = ((4294967296 * r + u0 : Nat) : Int) := by
              rw [show 4294967296 * (r : Int) = ((4294967296 * r : Nat) : Int) by omega, w64 (by omega), Mul64.addN]
              exact w64 f2
            have g4 : IntKind.u64.wrap ((r : Int) + (y1 : Int)) = ((r + y1 : Nat) : Int) := by
              rw [Mul64.addN]
              exact w64 (by have := hI.lt; have := hH.h1; omega)
            by_cases c1 : 4294967296 ≤ q
            · have hc : 4294967296 ≤ q ∨ 4294967296 * r + u0 < q * y0 := .inl c1
              have c1i : (q : Int) ≥ 4294967296 := by omega
              have hp := hI.pos hH hc
              have g3 : IntKind.u64.wrap ((q : Int) - 1) = ((q - 1 : Nat) : Int) := by
                rw [show (q : Int) - 1 = ((q - 1 : Nat) : Int) by omega]
                exact w64 (by have := hI.le; omega)
              by_cases c3 : 4294967296 ≤ r + y1
              · have c3i : IntKind.u64.wrap ((r : Int) + (y1 : Int)) ≥ 4294967296 := by rw [g4]; omega
                have hq : q - 1 = Q0 := (hI.leave hH hc c3).trans HQ2.out.symm
                rw [hq] at g3
                have HG := Lib.hid g3
                clear hH hI f1 f2 g1 g2 g3 g4 c1 c3 HI hc hp hq
                go_wp2_with fail
                go_ret2
                refine ⟨?_, Fr.refl _ _⟩
                show Ending.returned (.tuple #[.int .u64 (IntKind.u64.wrap (IntKind.u64.wrap ((Q1 : Int) * 4294967296) + (IntKind.u64.wrap ((q : Int) - 1) : Int))), .int .u64 (IntKind.u64.wrap (IntKind.u64.wrap (IntKind.u64.wrap ((R : Int) * 4294967296) + (u0 : Int)) - IntKind.u64.wrap ((IntKind.u64.wrap ((q : Int) - 1) : Int) * (Y : Int))) / 2 ^ s)]) = _
                rw [HG.out]
                (rw [HZ.out.1, HZ.out.2]) <;> (first | rfl | (push_cast; done) | (push_cast; rfl))
              · have c3i : ¬ IntKind.u64.wrap ((r : Int) + (y1 : Int)) ≥ 4294967296 := by rw [g4]; omega
                have HI2 := Lib.hid (hI.step hH hc (by omega))
                have HG := Lib.hid (And.intro g3 (And.intro g4 hp))
                clear hH hI f1 f2 g1 g2 g3 g4 c1 c3 HI hc hp
                go_wp2_with fail
                refine ⟨⟨trivial, q - 1, r + y1, by rw [HG.out.1], by rw [HG.out.2.1], HI2⟩, ?_⟩
                rw [HG.out.1]
                simp only [intOf]
                have := HG.out.2.2
                omega
            · have c1i : ¬ (q : Int) ≥ 4294967296 := by omega
              by_cases c2 : 4294967296 * r + u0 < q * y0
              · have hc : 4294967296 ≤ q ∨ 4294967296 * r + u0 < q * y0 := .inr c2
                have c2i : IntKind.u64.wrap ((q : Int) * (y0 : Int)) > IntKind.u64.wrap (IntKind.u64.wrap (4294967296 * (r : Int)) + (u0 : Int)) := by rw [g1, g2]; omega
                have hp := hI.pos hH hc
                have g3 : IntKind.u64.wrap ((q : Int) - 1) = ((q - 1 : Nat) : Int) := by
                  rw [show (q : Int) - 1 = ((q - 1 : Nat) : Int) by omega]
                  exact w64 (by have := hI.le; omega)
                by_cases c3 : 4294967296 ≤ r + y1
                · have c3i : IntKind.u64.wrap ((r : Int) + (y1 : Int)) ≥ 4294967296 := by rw [g4]; omega
                  have hq : q - 1 = Q0 := (hI.leave hH hc c3).trans HQ2.out.symm
                  rw [hq] at g3
                  have HG := Lib.hid g3
                  clear hH hI f1 f2 g1 g2 g3 g4 c1 c3 HI hc hp hq
                  go_wp2_with fail
                  go_ret2
                  refine ⟨?_, Fr.refl _ _⟩
                  show Ending.returned (.tuple #[.int .u64 (IntKind.u64.wrap (IntKind.u64.wrap ((Q1 : Int) * 4294967296) + (IntKind.u64.wrap ((q : Int) - 1) : Int))), .int .u64 (IntKind.u64.wrap (IntKind.u64.wrap (IntKind.u64.wrap ((R : Int) * 4294967296) + (u0 : Int)) - IntKind.u64.wrap ((IntKind.u64.wrap ((q : Int) - 1) : Int) * (Y : Int))) / 2 ^ s)]) = _
                  rw [HG.out]
                  (rw [HZ.out.1, HZ.out.2]) <;> (first | rfl | (push_cast; done) | (push_cast; rfl))
                · have c3i : ¬ IntKind.u64.wrap ((r : Int) + (y1 : Int)) ≥ 4294967296 := by rw [g4]; omega
                  have HI2 := Lib.hid (hI.step hH hc (by omega))
                  have HG := Lib.hid (And.intro g3 (And.intro g4 hp))
                  clear hH hI f1 f2 g1 g2 g3 g4 c1 c3 HI hc hp
                  go_wp2_with fail
                  refine ⟨⟨trivial, q - 1, r + y1, by rw [HG.out.1], by rw [HG.out.2.1], HI2⟩, ?_⟩
                  rw [HG.out.1]
                  simp only [intOf]
                  have := HG.out.2.2
                  omega
              · have c2i : ¬ IntKind.u64.wrap ((q : Int) * (y0 : Int)) > IntKind.u64.wrap (IntKind.u64.wrap (4294967296 * (r : Int)) + (u0 : Int)) := by rw [g1, g2]; omega
                have hq : Q0 = q := HQ2.out.trans (hI.stop hH c2).symm
                subst hq
                clear hH hI f1 f2 g1 g2 g4 c1 c2 HI
                go_wp2_with fail
                go_ret2
                refine ⟨?_, Fr.refl _ _⟩
                show Ending.returned (.tuple #[.int .u64 (IntKind.u64.wrap (IntKind.u64.wrap ((Q1 : Int) * 4294967296) + (Q0 : Int))), .int .u64 (IntKind.u64.wrap (IntKind.u64.wrap (IntKind.u64.wrap ((R : Int) * 4294967296) + (u0 : Int)) - IntKind.u64.wrap ((Q0 : Int) * (Y : Int))) / 2 ^ s)]) = _
                (rw [HZ.out.1, HZ.out.2]) <;> (first | rfl | (push_cast; done) | (push_cast; rfl))
        · have c3i : ¬ IntKind.u64.wrap ((r : Int) + (y1 : Int)) ≥ 4294967296 := by rw [g4]; omega
          have HI2 := Lib.hid (hI.step hH hc (by omega))
          have HG := Lib.hid (And.intro g3 (And.intro g4 hp))
          clear hH hI f1 f2 g1 g2 g3 g4 c1 c3 HI hc hp
          go_wp2_with fail
          refine ⟨⟨trivial, q - 1, r + y1, by rw [HG.out.1], by rw [HG.out.2.1], HI2⟩, ?_⟩
          rw [HG.out.1]
          simp only [intOf]
          have := HG.out.2.2
          omega
      · have c2i : ¬ IntKind.u64.wrap ((q : Int) * (y0 : Int)) > IntKind.u64.wrap (IntKind.u64.wrap (4294967296 * (r : Int)) + (u1 : Int)) := by rw [g1, g2]; omega
        have hq : Q1 = q := HQ1.out.trans (hI.stop hH c2).symm
        subst hq
        clear hH hI f1 f2 g1 g2 g4 c1 c2 HI
        go_wp2_with fail
        simp only [HT.out.1, HT.out.2.1, HT.out.2.2]
        clear HT HQ1 HH1
        try clear c1i
        try clear c2i
        try clear c3i
        go_loopw [18, 16] (fun x z wq => wq = wr ∧ ∃ q r : Nat, x = .int .u64 q ∧ z = .int .u64 r ∧ Hid (DvI Y y1 y0 R u0 q r)) (fun x _ _ => (intOf x).toNat)
        case atStart => exact ⟨rfl, q2, r2, rfl, rfl, HI_2⟩
        case round =>
          clear HI_2
          obtain ⟨hwr, q, r, rfl, rfl, HI⟩ := hrel
          subst hwr
          have hH := HH2.out
          have hI := HI.out
          obtain ⟨f1, f2⟩ := hI.fits hH
          have g1 : IntKind.u64.wrap ((q : Int) * (y0 : Int)) = ((q * y0 : Nat) : Int) := by rw [Mul64.mulN]; exact w64 f1
          have g2 : IntKind.u64.wrap (IntKind.u64.wrap (4294967296 * (r : Int)) + (u0 : Int)) = ((4294967296 * r + u0 : Nat) : Int) := by
            rw [show 4294967296 * (r : Int) = ((4294967296 * r : Nat) : Int) by omega, w64 (by omega), Mul64.addN]
            exact w64 f2
          have g4 : IntKind.u64.wrap ((r : Int) + (y1 : Int)) = ((r + y1 : Nat) : Int) := by
            rw [Mul64.addN]
            exact w64 (by have := hI.lt; have := hH.h1; omega)
          by_cases c1 : 4294967296 ≤ q
          · have hc : 4294967296 ≤ q ∨ 4294967296 * r + u0 < q * y0 := .inl c1
            have c1i : (q : Int) ≥ 4294967296 := by omega
            have hp := hI.pos hH hc
            have g3 : IntKind.u64.wrap ((q : Int) - 1) = ((q - 1 : Nat) : Int) := by
              rw [show (q : Int) - 1 = ((q - 1 : Nat) : Int) by omega]
              exact w64 (by have := hI.le; omega)
            by_cases c3 : 4294967296 ≤ r + y1
            · have c3i : IntKind.u64.wrap ((r : Int) + (y1 : Int)) ≥ 4294967296 := by rw [g4]; omega
              have hq : q - 1 = Q0 := (hI.leave hH hc c3).trans HQ2.out.symm
              rw [hq] at g3
              have HG := Lib.hid g3
              clear hH hI f1 f2 g1 g2 g3 g4 c1 c3 HI hc hp hq
              go_wp2_with fail
              go_ret2
              refine ⟨?_, Fr.refl _ _⟩
              show Ending.returned (.tuple #[.int .u64 (IntKind.u64.wrap (IntKind.u64.wrap ((Q1 : Int) * 4294967296) + (IntKind.u64.wrap ((q : Int) - 1) : Int))), .int .u64 (IntKind.u64.wrap (IntKind.u64.wrap (IntKind.u64.wrap ((R : Int) * 4294967296) + (u0 : Int)) - IntKind.u64.wrap ((IntKind.u64.wrap ((q : Int) - 1) : Int) * (Y : Int))) / 2 ^ s)]) = _
              rw [HG.out]
              (rw [HZ.out.1, HZ.out.2]) <;> (first | rfl | (push_cast; done) | (push_cast; rfl))
            · have c3i : ¬ IntKind.u64.wrap ((r : Int) + (y1 : Int)) ≥ 4294967296 := by rw [g4]; omega
              have HI2 := Lib.hid (hI.step hH hc (by omega))
              have HG := Lib.hid (And.intro g3 (And.intro g4 hp))
              clear hH hI f1 f2 g1 g2 g3 g4 c1 c3 HI hc hp
              go_wp2_with fail
              refine ⟨⟨trivial, q - 1, r + y1, by rw [HG.out.1], by rw [HG.out.2.1], HI2⟩, ?_⟩
              rw [HG.out.1]
              simp only [intOf]
              have := HG.out.2.2
              omega
          · have c1i : ¬ (q : Int) ≥ 4294967296 := by omega
            by_cases c2 : 4294967296 * r + u0 < q * y0
            · have hc : 4294967296 ≤ q ∨ 4294967296 * r + u0 < q * y0 := .inr c2
              have c2i : IntKind.u64.wrap ((q : Int) * (y0 : Int)) > IntKind.u64.wrap (IntKind.u64.wrap (4294967296 * (r : Int)) + (u0 : Int)) := by rw [g1, g2]; omega
              have hp := hI.pos hH hc
              have g3 : IntKind.u64.wrap ((q : Int) - 1) = ((q - 1 : Nat) : Int) := by
                rw [show (q : Int) - 1 = ((q - 1 : Nat) : Int) by omega]
                exact w64 (by have := hI.le; omega)
              by_cases c3 : 4294967296 ≤ r + y1
              · have c3i : IntKind.u64.wrap ((r : Int) + (y1 : Int)) ≥ 4294967296 := by rw [g4]; omega
                have hq : q - 1 = Q0 := (hI.leave hH hc c3).trans HQ2.out.symm
                rw [hq] at g3
                have HG := Lib.hid g3
                clear hH hI f1 f2 g1 g2 g3 g4 c1 c3 HI hc hp hq
                go_wp2_with fail
                go_ret2
                refine ⟨?_, Fr.refl _ _⟩
                show Ending.returned (.tuple #[.int .u64 (IntKind.u64.wrap (IntKind.u64.wrap ((Q1 : Int) * 4294967296) + (IntKind.u64.wrap ((q : Int) - 1) : Int))), .int .u64 (IntKind.u64.wrap (IntKind.u64.wrap (IntKind.u64.wrap ((R : Int) * 4294967296) + (u0 : Int)) - IntKind.u64.wrap ((IntKind.u64.wrap ((q : Int) - 1) : Int) * (Y : Int))) / 2 ^ s)]) = _
                rw [HG.out]
                (rw [HZ.out.1, HZ.out.2]) <;> (first | rfl | (push_cast; done) | (push_cast; rfl))
              · have c3i : ¬ IntKind.u64.wrap ((r : Int) + (y1 : Int)) ≥ 4294967296 := by rw [g4]; omega
                have HI2 := Lib.hid (hI.step hH hc (by omega))
                have HG := Lib.hid (And.intro g3 (And.intro g4 hp))
                clear hH hI f1 f2 g1 g2 g3 g4 c1 c3 HI hc hp
                go_wp2_with fail
                refine ⟨⟨trivial, q - 1, r + y1, by rw [HG.out.1], by rw [HG.out.2.1], HI2⟩, ?_⟩
                rw [HG.out.1]
                simp only [intOf]
                have := HG.out.2.2
                omega
            · have c2i : ¬ IntKind.u64.wrap ((q : Int) * (y0 : Int)) > IntKind.u64.wrap (IntKind.u64.wrap (4294967296 * (r : Int)) + (u0 : Int)) := by rw [g1, g2]; omega
              have hq : Q0 = q := HQ2.out.trans (hI.stop hH c2).symm
              subst hq
              clear hH hI f1 f2 g1 g2 g4 c1 c2 HI
              go_wp2_with fail
              go_ret2
              refine ⟨?_, Fr.refl _ _⟩
              show Ending.returned (.tuple #[.int .u64 (IntKind.u64.wrap (IntKind.u64.wrap ((Q1 : Int) * 4294967296) + (Q0 : Int))), .int .u64 (IntKind.u64.wrap (IntKind.u64.wrap (IntKind.u64.wrap ((R : Int) * 4294967296) + (u0 : Int)) - IntKind.u64.wrap ((Q0 : Int) * (Y : Int))) / 2 ^ s)]) = _
              (rw [HZ.out.1, HZ.out.2]) <;> (first | rfl | (push_cast; done) | (push_cast; rfl))
theorem div_any {hi lo y : Nat} (hl : lo < 18446744073709551616) (hy : y < 18446744073709551616) (hhy : hi < y) (w : World) :
    Calls Tryd.prog 40 #[.int .u64 (hi : Nat), .int .u64 (lo : Nat), .int .u64 (y : Nat)] w fun e w' => e = .returned (.tuple #[.int .u64 (((hi * 18446744073709551616 + lo) / y : Nat) : Int), .int .u64 (((hi * 18446744073709551616 + lo) % y : Nat) : Int)]) ∧ Fr (fun _ => False) w w' := by
  by_cases h0 : hi = 0
  · subst h0
    rw [Nat.zero_mul, Nat.zero_add]
    exact div_low hl hy hhy w
  · obtain ⟨s, h1, h2, h3, h4⟩ := lz_spec (y := y) (by omega) hy
    exact div_high (by omega) hl hy hhy h2 h1 h3 h4 w
theorem mul_any {x y : Nat} (hx : x < 18446744073709551616) (hy : y < 18446744073709551616) (w : World) :
    Calls Tryd.prog 39 #[.int .u64 (x : Nat), .int .u64 (y : Nat)] w fun e w' => e = .returned (.tuple #[.int .u64 ((x * y / 18446744073709551616 : Nat) : Int), .int .u64 ((x * y % 18446744073709551616 : Nat) : Int)]) ∧ w' = w :=
  Any.bits_Mul64 Tryd.layMul x y hx hy w
set_option maxRecDepth 100000 in
set_option maxHeartbeats 1000000 in
theorem round_any {a g all : Nat} (ha : a ≤ 1000000000000) (hg : g ≤ all) (h0 : 0 < all) (h1 : all ≤ 64000000000000) (w : World) :
    Calls Tryd.prog 28 #[.int .i64 (a : Nat), .int .i64 (g : Nat), .int .i64 (all : Nat)] w fun e w' => e = .returned (.tuple #[.int .i64 ((a * g / all : Nat) : Int), .int .u64 ((a * g % all : Nat) : Int)]) ∧ Fr (fun _ => False) w w' := by
  obtain ⟨hi, hhi⟩ : ∃ hi, hi = a * g / 18446744073709551616 := ⟨_, rfl⟩
  obtain ⟨lo, hlo⟩ : ∃ lo, lo = a * g % 18446744073709551616 := ⟨_, rfl⟩
  have hm := mul_any (x := a) (y := g) (by omega) (by omega)
  rw [← hhi, ← hlo] at hm
  have hb : a * g ≤ 1000000000000 * all := Nat.mul_le_mul ha hg
  have hN : hi * 18446744073709551616 + lo = a * g := by omega
  have hd := div_any (hi := hi) (lo := lo) (y := all) (by omega) (by omega) (by omega)
  rw [hN] at hd
  obtain ⟨q, hq⟩ : ∃ q, q = a * g / all := ⟨_, rfl⟩
  obtain ⟨r, hr⟩ : ∃ r, r = a * g % all := ⟨_, rfl⟩
  have hqb : q ≤ 1000000000000 := by
    rw [hq]
    apply Nat.div_le_of_le_mul
    rw [Nat.mul_comm all]
    exact hb
  rw [← hq, ← hr] at hd ⊢
  have HM := Lib.hid hm
  have HD := Lib.hid hd
  clear hm hd hq hr hN hb hhi hlo
  go_enter Tryd.func28, Tryd.ntmps28
  go_wp2_with fail
  refine (HM.out _).mono ?_
  rintro e w1 ⟨rfl, rfl⟩
  go_wp2_with fail
  refine (HD.out _).mono ?_
  rintro e w2 ⟨rfl, f2⟩
  have HF := Lib.hid f2
  clear f2
  go_wp2_with fail
  go_ret2
  exact ⟨rfl, HF.out⟩
end Go.Proofs.YtfonchobolhkoaaDoor
