/- The law WalOpens. -/
import Derived.Test.YtjdbgojnpnlblaaGreatVzs
import Derived.Test.YtjdbgojnpnlblaaGreatVpf
namespace Go.Proofs.YtjdbgojnpnlblaaGreat
open Go.RowKit

theorem aopenL_any {w : World} {B g : Nat} {P : Nat → Prop} {d : DS} (h : DAt w B P g d) : Calls Tryz.prog 17 #[.pointer (some ⟨g, 0, none⟩)] w fun e w' => ∃ v, e = .returned v ∧ w'.ownsRow w.heap.size 3 1 v d.openL.length ((asZ d.openL).map encZ) ∧ Fr (fun _ => False) w w' := by
  obtain ⟨⟨R, M, D, val, k1⟩, k2⟩ := h
  exact open_any k1
theorem RcsV.keepB {F : Nat → Prop} {w w' : World} {base : Nat} {v : Value} {rs : List (List Chg)} (h : RcsV w base v rs) (f : Fr F w w') (hF : ∀ b, base ≤ b → ¬ F b) : RcsV w' base v rs := by
  obtain ⟨vs, h1, h2, h3⟩ := h
  refine ⟨vs, own_keep h1 f (fun k hk => hF k (own_low h1 hk)), h2, fun i u r hu hr => ?_⟩
  obtain ⟨q1, q2⟩ := h3 i u r hu hr
  exact ⟨q1.keep f (fun b hb => hF b (q2 b hb).1), fun b hb => ⟨(q2 b hb).1, (q2 b hb).2.choose, (q2 b hb).2.choose_spec.keep f (hF b (q2 b hb).1)⟩⟩
theorem rall_same {w : World} {u v : Value} {rs : List (List Chg)} (hr : RcsR w u rs) (ht : RcsR w v rs) : Calls Tryz.prog 16 #[u, v] w fun e w' => e = .returned (.bool true) ∧ Fr (fun _ => False) w w' :=
  (rall_any hr ht).mono fun e w' q => ⟨by rw [q.1]; simp, q.2⟩
theorem recs_used {c s : Nat} : ∀ (f n : Nat) (ss : List (List UInt8)), (∀ x ∈ ss, x.length = 128) → usedOf (recsFrom c s f n ss) ≤ ss.length
  | 0, _, _, _ => Nat.zero_le _
  | f + 1, n, ss, hs => by
    rw [recsFrom]
    rcases hj : joinOf ss with _ | b
    · exact Nat.zero_le _
    · obtain ⟨_, h1, h2⟩ := join_long hs hj
      show usedOf (if _ then _ else _) ≤ _
      split
      · rcases recOf b with _ | r
        · exact Nat.zero_le _
        · have ih := recs_used (c := c) (s := s) f (n + 1) (ss.drop (needN (b.length : Nat))) (fun x hx => hs x (List.mem_of_mem_drop hx))
          rw [List.length_drop] at ih
          show usedOf ((r, needN (b.length : Nat)) :: recsFrom c s f (n + 1) (ss.drop (needN (b.length : Nat)))) ≤ _
          have e : usedOf ((r, needN (b.length : Nat)) :: recsFrom c s f (n + 1) (ss.drop (needN (b.length : Nat)))) = needN (b.length : Nat) + usedOf (recsFrom c s f (n + 1) (ss.drop (needN (b.length : Nat)))) := by simp [usedOf]
          rw [e]
          omega
      · exact Nat.zero_le _
theorem secV_take {w : World} {A : Option Addr} {n cap : Nat} {ss : List (List UInt8)} (h : SecV w (.slice A n cap) ss) (k : Nat) (hk : k ≤ ss.length) : SecV w (.slice A k cap) (ss.take k) ∧ ∀ W, (Instr.slice 33 (.slice A n cap) none (some (.int .i64 (k : Int))) none).run Tryz.prog W = .ok (.slice A k cap) W := by
  obtain ⟨A1, cap1, e, h1, h2, h3⟩ := h
  injection e with e1 e0 e2
  subst e1 e2 e0
  have hl : (ss.take k).length = k := by rw [List.length_take]; omega
  refine ⟨⟨A, cap, by rw [hl], by rw [hl]; omega, h2, fun q => ?_⟩, fun W => ?_⟩
  · rw [hl] at q
    obtain ⟨b, off, rfl, hs⟩ := h3 (by omega)
    refine ⟨b, off, rfl, fun i s hi => hs i s ?_⟩
    rw [List.getElem?_take] at hi
    split at hi
    · exact hi
    · cases hi
  · rw [run_slice_h W 33 A ss.length cap (by kernel_rfl) .i64 k (by omega) (by omega), sizeSecW]
    have h0 : A.map (fun x => x.add 0) = A := by cases A <;> simp [Addr.add]
    simp [Result.andThen, sliced, h0]
set_option maxRecDepth 100000 in
set_option maxHeartbeats 4000000 in
theorem opens_out {w : World} {v : Value} {xs : List CellD} (hx : CellV w v xs) {m z : Int} (hout : ¬ (m ≤ 80 ∧ xs.length ≤ 60)) :
    Calls Tryz.prog 3 #[.int .i64 m, .int .i64 z, v] w fun e w' => e = .returned (.bool true) ∧ Fr (fun _ => False) w w' := by
  obtain ⟨A, cap, rfl, hxm, _⟩ := hx
  have h9 : xs.length ≤ 9223372036854775807 := by simp only [maxLen] at hxm; omega
  generalize xs.length = n at *
  clear hxm
  by_cases h1 : m > 80
  · have h1' : 80 < m := h1
    clear hout
    go_enter Tryz.func3, Tryz.ntmps3
    go_wp2_with fail
    refine (known_any _).mono ?_
    rintro e wk ⟨rfl, fk⟩
    have HK := Lib.hid (fk)
    clear fk
    go_wp2_with fail
    go_ret
    exact ⟨rfl, HK.out⟩
  have h2 : (n : Int) > 60 := by omega
  have h2' : (60 : Int) < (n : Int) := h2
  have h1' : ¬ 80 < m := h1
  clear hout
  go_enter Tryz.func3, Tryz.ntmps3
  go_wp2_with fail
  refine (known_any _).mono ?_
  rintro e wk ⟨rfl, fk⟩
  have HK := Lib.hid (fk)
  clear fk
  go_wp2_with fail
  go_ret
  exact ⟨rfl, HK.out⟩
set_option maxRecDepth 100000 in
set_option maxHeartbeats 4000000 in
theorem opens_none {w : World} {v : Value} {xs : List CellD} (hx : CellV w v xs) {m z : Int} (h60 : xs.length ≤ 60) (hm : m < 1) :
    Calls Tryz.prog 3 #[.int .i64 m, .int .i64 z, v] w fun e w' => e = .returned (.bool true) ∧ Fr (fun _ => False) w w' := by
  obtain ⟨A, cap, rfl, hxm, _⟩ := hx
  generalize xs.length = n at *
  have g1 : ¬ m > 80 := by omega
  have g1' : ¬ 80 < m := by omega
  have g2 : ¬ (n : Int) > 60 := by omega
  have g2' : ¬ (60 : Int) < (n : Int) := by omega
  have HN := Lib.hid (new_bad w (n := m) (.inl hm))
  clear hm hxm h60
  go_enter Tryz.func3, Tryz.ntmps3
  go_wp2_with fail
  refine HN.out.mono ?_
  rintro e w1 ⟨rfl, rfl⟩
  go_wp2_with fail
  refine (open_none (sectors_nil _) z).mono ?_
  rintro e w1 ⟨rfl, rfl⟩
  go_wp2_with fail
  refine (known_any _).mono ?_
  rintro e wk ⟨rfl, fk⟩
  have HK := Lib.hid (fk)
  clear fk
  go_wp2_with fail
  go_ret
  exact ⟨rfl, HK.out⟩
set_option maxRecDepth 100000 in
set_option maxHeartbeats 8000000 in
theorem opens_unfit {w : World} {v : Value} {xs : List CellD} (hx : CellV w v xs) {m : Nat} {z : Int} (h60 : xs.length ≤ 60) (h1 : 1 ≤ m) (h80 : m ≤ 80) (hz0 : -9223372036854775808 ≤ z) (hz1 : z ≤ 9223372036854775807) (hf : fitB (m : Int) z = false) :
    Calls Tryz.prog 3 #[.int .i64 m, .int .i64 z, v] w fun e w' => e = .returned (.bool true) ∧ Fr (fun _ => False) w w' := by
  have hfe : fitE m z = 2 := by
    unfold fitE
    rw [if_pos]
    unfold fitB at hf
    simp only [Bool.and_eq_false_iff, decide_eq_false_iff_not] at hf
    omega
  have HF := Lib.hid fun w => rfits_any w m z
  rw [hf] at HF
  have HZ := Lib.hid (And.intro h1 (And.intro h80 (And.intro hz0 (And.intro hz1 hfe))))
  clear hf hfe hz0 hz1 h1
  have HX := Lib.hid (And.intro hx h60)
  obtain ⟨A, cap, rfl, hxm, _⟩ := hx
  obtain ⟨n, hn⟩ : ∃ n, n = xs.length := ⟨_, rfl⟩
  have HNX := Lib.hid hn
  rw [← hn] at HX h60 ⊢
  have g1 : ¬ (m : Int) > 80 := by omega
  have g1' : ¬ (80 : Int) < (m : Int) := by omega
  have g2 : ¬ (n : Int) > 60 := by omega
  have g2' : ¬ (60 : Int) < (n : Int) := by omega
  clear hxm hn
  go_enter Tryz.func3, Tryz.ntmps3
  go_wp2_with fail
  refine (anew_any w (n := m) (by have := HZ.out.1; omega) (by have := HZ.out.2.1; omega)).mono ?_
  rintro e w1 ⟨g, P1, rfl, hd1, f1⟩
  have k0 := KD.new (N := m) (by have := HZ.out.1; omega)
  have H1 := Lib.hid (And.intro hd1 (And.intro f1 k0))
  clear hd1 f1 k0 g1 g1' g2 g2'
  go_wp2_with fail
  refine (lwrite_any HX.out.1 (by have h1 := HX.out.2; have h2 := HNX.out; omega) (Nat.le_refl _) (H1.out.2.1.mono (fun _ _ q => q.elim)) H1.out.1 H1.out.2.2.fr (fun j => Nat.le_trans (H1.out.2.2.vs j) (by omega))).mono ?_
  rintro e w2 ⟨⟨r2, rfl⟩, ⟨P2, d2, hd2, hfr2, hln2, hvs2, hsub2⟩, f2⟩
  rw [H1.out.2.2.ln] at hln2
  have f2w : Fr (fun _ => False) w w2 := H1.out.2.1.trans f2 (fun i hi q => by have := (H1.out.1.2 i q).1; omega)
  have H2 := Lib.hid (And.intro hd2 (And.intro hfr2 (And.intro hln2 (And.intro hvs2 f2w))))
  clear hd2 hfr2 hln2 hvs2 hsub2 f2 f2w H1
  go_wp2_with fail
  refine (lsectors_any H2.out.1 (n := m) (by have := HZ.out.1; omega) (by rw [H2.out.2.2.1]; exact Nat.le_refl _)).mono ?_
  rintro e w3 ⟨bw, cw, rfl, hbw, hc1, hc2, hsb, f3⟩
  rw [List.take_of_length_le (by rw [H2.out.2.2.1]; exact Nat.le_refl _)] at hsb
  have H3 := Lib.hid (And.intro hbw (And.intro hc1 (And.intro hc2 (And.intro hsb (And.intro f3 (H2.out.2.2.2.2.trans f3 (fun _ _ q => q)))))))
  have HD3 := Lib.hid (H2.out.1.new f3)
  clear hbw hc1 hc2 hsb f3
  have HO := Lib.hid (open_bad HD3.out z HZ.out.2.2.1 HZ.out.2.2.2.1 (by rw [H2.out.2.2.1]; exact HZ.out.2.2.2.2))
  have HFB := Lib.hid (format_bad HD3.out z HZ.out.2.2.1 HZ.out.2.2.2.1 (by rw [H2.out.2.2.1, HZ.out.2.2.2.2]; decide))
  clear h80 h60
  go_wp2_with fail
  refine HO.out.mono ?_
  rintro e w4 ⟨rfl, rfl⟩
  clear HO
  go_wp2_with fail
  refine (HF.out _).mono ?_
  rintro e w4 ⟨rfl, rfl⟩
  clear HF
  go_wp2_with fail
  refine HFB.out.mono ?_
  rintro e w4 ⟨rfl, rfl⟩
  clear HFB
  go_wp2_with fail
  have HSC := Lib.hid (lsectors_any HD3.out (n := m) (by have := HZ.out.1; omega) (by rw [H2.out.2.2.1]; exact Nat.le_refl _))
  rw [List.take_of_length_le (by rw [H2.out.2.2.1]; exact Nat.le_refl _)] at HSC
  have HPR := Lib.hid (And.intro H3.out.2.2.2.1 H3.out.2.2.2.2.2)
  refine HSC.out.mono ?_
  rintro e w7 ⟨b7, c7, rfl, _, j1, j2, hs7, f7⟩
  have HSM := Lib.hid (lsame_any (hs7.secV H2.out.2.2.1.symm (by rw [H2.out.2.2.1]; exact j1) j2) ((HPR.out.1.keep f7 (fun q => q)).secV H2.out.2.2.1.symm (by rw [H2.out.2.2.1]; exact H3.out.2.1) H3.out.2.2.1))
  rw [show decide (d2.rd = d2.rd) = true by simp] at HSM
  have H7 := Lib.hid (HPR.out.2.trans f7 (fun _ _ q => q))
  clear hs7 j1 j2 f7 HSC HPR
  go_wp2_with fail
  refine HSM.out.mono ?_
  rintro e w8 ⟨rfl, f8⟩
  have H8 := Lib.hid (H7.out.trans f8 (fun _ _ q => q))
  clear f8 HSM H7
  go_wp2_with fail
  refine (known_any _).mono ?_
  rintro e wk ⟨rfl, fk⟩
  have HK := Lib.hid (H8.out.trans fk (fun _ _ q => q))
  clear fk
  go_wp2_with fail
  go_ret
  exact ⟨rfl, HK.out⟩
set_option maxRecDepth 100000 in
set_option maxHeartbeats 8000000 in
theorem opens_fit {w : World} {v : Value} {xs : List CellD} (hx : CellV w v xs) {m z : Nat} (h60 : xs.length ≤ 60) (h80 : m ≤ 80) (h4 : 4 ≤ z) (hzm : z + 1 ≤ m) :
    Calls Tryz.prog 3 #[.int .i64 m, .int .i64 z, v] w fun e w' => e = .returned (.bool true) ∧ Fr (fun _ => False) w w' := by
  have hfit : fitB (m : Int) (z : Int) = true := by unfold fitB; simp; omega
  have HF := Lib.hid fun w => rfits_any w m z
  rw [hfit] at HF
  have HZ := Lib.hid (And.intro (show 1 ≤ m by omega) (And.intro h80 (And.intro h4 hzm)))
  clear hfit
  have HX := Lib.hid (And.intro hx h60)
  obtain ⟨A, cap, rfl, hxm, _⟩ := hx
  obtain ⟨n, hn⟩ : ∃ n, n = xs.length := ⟨_, rfl⟩
  have HNX := Lib.hid hn
  rw [← hn] at HX h60 ⊢
  have g1 : ¬ (m : Int) > 80 := by omega
  have g1' : ¬ (80 : Int) < (m : Int) := by omega
  have g2 : ¬ (n : Int) > 60 := by omega
  have g2' : ¬ (60 : Int) < (n : Int) := by omega
  clear hxm hn
  go_enter Tryz.func3, Tryz.ntmps3
  go_wp2_with fail
  refine (anew_any w (n := m) (by have := HZ.out.1; omega) (by have := HZ.out.2.1; omega)).mono ?_
  rintro e w1 ⟨g, P1, rfl, hd1, f1⟩
  have k0 := KD.new (N := m) (by have := HZ.out.1; omega)
  have H1 := Lib.hid (And.intro hd1 (And.intro f1 k0))
  clear hd1 f1 k0 g1 g1' g2 g2'
  go_wp2_with fail
  refine (lwrite_any HX.out.1 (by have h1 := HX.out.2; have h2 := HNX.out; omega) (Nat.le_refl _) (H1.out.2.1.mono (fun _ _ q => q.elim)) H1.out.1 H1.out.2.2.fr (fun j => Nat.le_trans (H1.out.2.2.vs j) (by omega))).mono ?_
  rintro e w2 ⟨⟨r2, rfl⟩, ⟨P2, d2, hd2, hfr2, hln2, hvs2, hsub2⟩, f2⟩
  rw [H1.out.2.2.ln] at hln2
  have f2w : Fr (fun _ => False) w w2 := H1.out.2.1.trans f2 (fun i hi q => by have := (H1.out.1.2 i q).1; omega)
  have H2 := Lib.hid (And.intro hd2 (And.intro hfr2 (And.intro hln2 (And.intro hvs2 f2w))))
  clear hd2 hfr2 hln2 hvs2 hsub2 f2 f2w H1
  go_wp2_with fail
  refine (lsectors_any H2.out.1 (n := m) (by have := HZ.out.1; omega) (by rw [H2.out.2.2.1]; exact Nat.le_refl _)).mono ?_
  rintro e w3 ⟨bw, cw, rfl, hbw, hc1, hc2, hsb, f3⟩
  rw [List.take_of_length_le (by rw [H2.out.2.2.1]; exact Nat.le_refl _)] at hsb
  have H3 := Lib.hid (And.intro hbw (And.intro hc1 (And.intro hc2 (And.intro hsb (And.intro f3 (H2.out.2.2.2.2.trans f3 (fun _ _ q => q)))))))
  have HD3 := Lib.hid (H2.out.1.new f3)
  clear hbw hc1 hc2 hsb f3
  have hgd : (d2.rd.take (z + 1)).getD 0 [] = d2.head := by
    unfold DS.head
    rw [List.getD_eq_getElem?_getD, List.getElem?_take, if_pos (by omega), ← List.getD_eq_getElem?_getD]
  have htl : (d2.rd.take (z + 1)).length = z + 1 := by rw [List.length_take, H2.out.2.2.1]; omega
  have hzl : z + 1 ≤ d2.rd.length := by rw [H2.out.2.2.1]; exact hzm
  have hsl : ∀ W, (Instr.slice 33 (.slice (some ⟨bw, 0, none⟩) m cw) none (some (.int .i64 (1 + (z : Int)))) none).run Tryz.prog W = .ok (.slice (some ⟨bw, 0, none⟩) (1 + z) cw) W := by
    have := (secV_take (H3.out.2.2.2.1.secV H2.out.2.2.1.symm (by rw [H2.out.2.2.1]; exact H3.out.2.1) H3.out.2.2.1) (1 + z) (by omega)).2
    exact this
  have HSY : Hid (∀ w', SecB w' bw d2.rd → Calls Tryz.prog 14 #[.slice (some ⟨bw, 0, none⟩) (1 + z) cw] w' (SaysR w' (d2.rd.take (z + 1)))) := Lib.hid fun w' hs => by
    have := (secV_take (hs.secV H2.out.2.2.1.symm (by rw [H2.out.2.2.1]; exact H3.out.2.1) H3.out.2.2.1) (1 + z) (by omega)).1
    rw [Nat.add_comm 1 z] at this ⊢
    exact rsays_any this (by rw [htl]; omega) (by rw [htl]; omega)
  have HG := Lib.hid (And.intro hgd (And.intro htl hzl))
  have hz80 : z ≤ 80 := by omega
  have hi1 : (1 : Int) + (z : Int) ≤ (m : Int) := by omega
  have hm0 : (0 : Int) < (m : Int) := by omega
  clear hgd htl hzl h80 h60 h4
  cases hh : isHd d2.head with
  | false =>
    have HHH := Lib.hid hh
    have HO := Lib.hid (open_nohead HD3.out HZ.out.2.2.1 (by omega) HG.out.2.2 hh)
    clear hh
    go_wp2_with fail
    refine HO.out.mono ?_
    rintro e w4 ⟨rfl, f4⟩
    have H4 := Lib.hid (And.intro (HD3.out.new f4) (And.intro (H3.out.2.2.2.1.keep f4 (fun q => q)) (H3.out.2.2.2.2.2.trans f4 (fun _ _ q => q))))
    clear f4 HO
    go_wp2_with fail
    refine (HF.out _).mono ?_
    rintro e w4' ⟨rfl, rfl⟩
    clear HF
    go_wp2_with fail
    refine (HSY.out _ H4.out.2.1).mono ?_
    rintro e w5 ⟨q1, _, f5⟩
    rw [HG.out.1] at q1
    obtain rfl := q1 HHH.out
    have H5 := Lib.hid (And.intro (H4.out.1.new f5) (And.intro (H4.out.2.1.keep f5 (fun q => q)) (H4.out.2.2.trans f5 (fun _ _ q => q))))
    clear q1 f5 H4 hsl
    go_wp2_with fail
    have HSC := Lib.hid (lsectors_any H5.out.1 (n := m) (by have := HZ.out.1; omega) (by rw [H2.out.2.2.1]; exact Nat.le_refl _))
    rw [List.take_of_length_le (by rw [H2.out.2.2.1]; exact Nat.le_refl _)] at HSC
    have HPR := Lib.hid (And.intro H5.out.2.1 H5.out.2.2)
    refine HSC.out.mono ?_
    rintro e w7 ⟨b7, c7, rfl, _, j1, j2, hs7, f7⟩
    have HSM := Lib.hid (lsame_any (hs7.secV H2.out.2.2.1.symm (by rw [H2.out.2.2.1]; exact j1) j2) ((HPR.out.1.keep f7 (fun q => q)).secV H2.out.2.2.1.symm (by rw [H2.out.2.2.1]; exact H3.out.2.1) H3.out.2.2.1))
    rw [show decide (d2.rd = d2.rd) = true by simp] at HSM
    have H7 := Lib.hid (HPR.out.2.trans f7 (fun _ _ q => q))
    clear hs7 j1 j2 f7 HSC HPR
    go_wp2_with fail
    refine HSM.out.mono ?_
    rintro e w8 ⟨rfl, f8⟩
    have H8 := Lib.hid (H7.out.trans f8 (fun _ _ q => q))
    clear f8 HSM H7
    go_wp2_with fail
    refine (known_any _).mono ?_
    rintro e wk ⟨rfl, fk⟩
    have HK := Lib.hid (H8.out.trans fk (fun _ _ q => q))
    clear fk
    go_wp2_with fail
    go_ret
    exact ⟨rfl, HK.out⟩
  | true =>
    have hcle := isHd_le hh
    by_cases hmx : cntOf d2.head = maxC
    · have HHH := Lib.hid (And.intro hh hmx)
      have HO := Lib.hid (open_full HD3.out HZ.out.2.2.1 (by omega) HG.out.2.2 hh hmx)
      clear hh hmx hcle
      go_wp2_with fail
      refine HO.out.mono ?_
      rintro e w4 ⟨rfl, f4⟩
      have H4 := Lib.hid (And.intro (HD3.out.new f4) (And.intro (H3.out.2.2.2.1.keep f4 (fun q => q)) (H3.out.2.2.2.2.2.trans f4 (fun _ _ q => q))))
      clear f4 HO
      go_wp2_with fail
      refine (HF.out _).mono ?_
      rintro e w4' ⟨rfl, rfl⟩
      clear HF
      go_wp2_with fail
      refine (HSY.out _ H4.out.2.1).mono ?_
      rintro e w5 ⟨_, q2, f5⟩
      rw [HG.out.1] at q2
      obtain ⟨L, rfl, vL, hbL, _, _⟩ := q2 HHH.out.1
      have k0 := hbL.cell 0
      simp only [List.getElem?_toArray, List.getElem?_cons_zero] at k0
      rw [HHH.out.2] at k0
      have k0' : w5.cell? ⟨L, 0, none⟩ = some (.int .u64 4611686018427387904) := k0
      have H5 := Lib.hid (And.intro (H4.out.1.new f5) (And.intro (H4.out.2.1.keep f5 (fun q => q)) (H4.out.2.2.trans f5 (fun _ _ q => q))))
      clear q2 f5 H4 hsl hbL k0
      go_wp2_with fail
      have HSC := Lib.hid (lsectors_any H5.out.1 (n := m) (by have := HZ.out.1; omega) (by rw [H2.out.2.2.1]; exact Nat.le_refl _))
      rw [List.take_of_length_le (by rw [H2.out.2.2.1]; exact Nat.le_refl _)] at HSC
      have HPR := Lib.hid (And.intro H5.out.2.1 H5.out.2.2)
      refine HSC.out.mono ?_
      rintro e w7 ⟨b7, c7, rfl, _, j1, j2, hs7, f7⟩
      have HSM := Lib.hid (lsame_any (hs7.secV H2.out.2.2.1.symm (by rw [H2.out.2.2.1]; exact j1) j2) ((HPR.out.1.keep f7 (fun q => q)).secV H2.out.2.2.1.symm (by rw [H2.out.2.2.1]; exact H3.out.2.1) H3.out.2.2.1))
      rw [show decide (d2.rd = d2.rd) = true by simp] at HSM
      have H7 := Lib.hid (HPR.out.2.trans f7 (fun _ _ q => q))
      clear hs7 j1 j2 f7 HSC HPR
      go_wp2_with fail
      refine HSM.out.mono ?_
      rintro e w8 ⟨rfl, f8⟩
      have H8 := Lib.hid (H7.out.trans f8 (fun _ _ q => q))
      clear f8 HSM H7
      go_wp2_with fail
      refine (known_any _).mono ?_
      rintro e wk ⟨rfl, fk⟩
      have HK := Lib.hid (H8.out.trans fk (fun _ _ q => q))
      clear fk
      go_wp2_with fail
      go_ret
      exact ⟨rfl, HK.out⟩
    · have hlt : cntOf d2.head < maxC := by have h1 := hcle.2.2; omega
      have HO := Lib.hid (open_go HD3.out HZ.out.2.2.1 (by omega) HG.out.2.2 hh hlt (fun j => Nat.le_trans (H2.out.2.2.2.1 j) (by omega)))
      obtain ⟨c, hc⟩ : ∃ c, c = cntOf d2.head := ⟨_, rfl⟩
      obtain ⟨s, hs⟩ : ∃ s, s = sinOf d2.head := ⟨_, rfl⟩
      rw [← hc, ← hs] at HO hcle
      rw [← hc] at hlt
      obtain ⟨rs, hrs⟩ : ∃ rs, rs = recs c s ((d2.rd.take (z + 1)).drop 1) := ⟨_, rfl⟩
      rw [← hrs] at HO
      have hus : usedOf rs ≤ z := by
        rw [hrs]
        have h1 := recs_used (c := c) (s := s) (((d2.rd.take (z + 1)).drop 1).length + 1) 0 ((d2.rd.take (z + 1)).drop 1) (fun x hx => HD3.out.all128 x (List.mem_of_mem_take (List.mem_of_mem_drop hx)))
        have h2 : ((d2.rd.take (z + 1)).drop 1).length = z := by rw [List.length_drop, HG.out.2.1]; rfl
        exact Nat.le_trans h1 (Nat.le_of_eq h2)
      obtain ⟨s1, hs1⟩ : ∃ s1, s1 = hdS (c + 1) s := ⟨_, rfl⟩
      have hst := settle_free H2.out.2.1 0 [s1]
      have hsl1 : s1.length = 128 := by rw [hs1]; exact hdS_len _ _
      have HHH := Lib.hid (And.intro hh (And.intro hc (And.intro hs (And.intro hrs (And.intro hst (And.intro hus (And.intro hcle (And.intro hs1 hsl1))))))))
      have hc62 : c < 4611686018427387904 := hlt
      clear hh hmx hcle hlt hc hs hrs hus hst hs1 hsl1
      go_wp2_with fail
      refine HO.out.mono ?_
      rintro e w4 ⟨_, o2, ⟨P4, hp1, hp2, hp3⟩, f4⟩
      rw [← HHH.out.2.2.2.2.2.2.2.1] at o2 hp1
      obtain ⟨lb, v4, rfl, hlb, hlg, hv⟩ := o2 HHH.out.2.2.2.2.1.1
      have hlP := hp3 lb v4 rfl
      have hbw3 : bw < w3.heap.size := by
        obtain ⟨cs, q, _⟩ := H3.out.2.2.2.1
        exact q.lt
      have hP2 : ∀ b, P2 b → b < w2.heap.size := fun b q => (H2.out.1.2 b q).2
      have hsb4 := H3.out.2.2.2.1.keep f4 (fun q => by have h1 := hP2 bw q; have h2 := H3.out.1; omega)
      have f4w : Fr (fun _ => False) w w4 := H3.out.2.2.2.2.2.trans f4 (fun i hi q => by have := (H2.out.1.2 i q).1; omega)
      have hPb : ¬ P4 bw := fun q => by
        rcases hp2 bw q with q | q
        · have h1 := hP2 bw q; have h2 := H3.out.1; omega
        · omega
      have hbl : w.heap.size ≤ bw := Nat.le_trans H2.out.2.2.2.2.size H3.out.1
      have H4 := Lib.hid (And.intro hp1 (And.intro hlP (And.intro hlg (And.intro hsb4 (And.intro f4w (And.intro hv (And.intro hPb (And.intro hbw3 (And.intro hlb (And.intro f4.size hbl))))))))))
      clear hp1 hp2 hp3 hlP hlg hsb4 f4w hv hPb f4 o2 HO hP2 hbw3 hlb hbl
      go_wp2_with fail
      refine (HF.out _).mono ?_
      rintro e w4' ⟨rfl, rfl⟩
      clear HF
      go_wp2_with fail
      refine (HSY.out _ H4.out.2.2.2.1).mono ?_
      rintro e w5 ⟨_, q2, f5⟩
      rw [HG.out.1, ← HHH.out.2.1, ← HHH.out.2.2.1, ← HHH.out.2.2.2.1, HG.out.2.1] at q2
      obtain ⟨L, rfl, vL, hbL, hlL, hkL⟩ := q2 HHH.out.1
      rw [show (((z + 1 : Nat) : Int) - 1) = (z : Int) by omega] at hbL
      obtain ⟨AL, cL, rfl, hcL⟩ := hkL.form
      rw [List.length_map] at hbL hkL hcL
      obtain ⟨nr, hnr⟩ : ∃ nr, nr = rs.length := ⟨_, rfl⟩
      obtain ⟨us, huse⟩ : ∃ us, us = usedOf rs := ⟨_, rfl⟩
      rw [← hnr] at hbL hkL hcL
      rw [← huse] at hbL
      have hLbw : bw < L := by have h1 := H4.out.2.2.2.2.2.2.2.1; have h2 := H4.out.2.2.2.2.2.2.2.2.2.1; omega
      have hC : ∀ w'', Fr (fun b => b = bw) w5 w'' → w''.cell? ⟨L, 0, none⟩ = some (.int .u64 (c : Nat)) ∧ w''.cell? ⟨L, 1, none⟩ = some (.int .u64 (s : Nat)) := fun w'' f => by
        have h1 := (hbL.keep f (by omega)).cell 0
        have h2 := (hbL.keep f (by omega)).cell 1
        simp only [List.getElem?_toArray, List.getElem?_cons_zero, List.getElem?_cons_succ] at h1 h2
        exact ⟨h1, h2⟩
      have HC := Lib.hid hC
      have k0 := (hC w5 (Fr.refl _ _)).1
      have H5 := Lib.hid (And.intro hbL (And.intro hkL (And.intro f5 (And.intro hLbw (And.intro hnr huse)))))
      have hcm : ((c : Int) == 4611686018427387904) = false := by rw [beq_eq_false_iff_ne]; omega
      have hwc : IntKind.u64.wrap ((c : Int) + 1) = (c : Int) + 1 := by simp [IntKind.wrap, IntKind.signed, IntKind.bits]; omega
      clear q2 hbL hkL f5 hLbw hcL hC hsl hnr huse
      have hmz : ¬ m = 0 := by have h1 := HZ.out.1; omega
      go_upto_region 18 with fail
      clear k0
      refine wp_region_held_drew (S := fun w' => Fr (fun b => b = bw) w5 w') (by kernel_rfl) ((Fr.refl _ _).drew) (fun hS0 => ?_)
      refine anyH_take 0 130 (.slice (some ⟨bw, 0, none⟩) m cw) rfl rfl (by kernel_rfl) (by kernel_rfl) (by kernel_rfl) (fun _ _ _ h => h) (.inl ⟨by rfl, fun w'' hS => by go_simp⟩) hS0 ?_
      (simp only [List.setIfInBounds_toArray, List.set_cons_zero, List.set_cons_succ])
      refine anyH_take 1 131 (.pointer (some ⟨L, 0, none⟩)) rfl rfl (by kernel_rfl) (by kernel_rfl) (by kernel_rfl) (fun _ _ _ h => h) (.inl ⟨by rfl, fun w'' hS => by go_simp⟩) hS0 ?_
      (simp only [List.setIfInBounds_toArray, List.set_cons_zero, List.set_cons_succ])
      refine anyH_take 2 132 (.pointer (some ⟨L, 0, none⟩)) rfl rfl (by kernel_rfl) (by kernel_rfl) (by kernel_rfl) (fun _ _ _ h => h) (.inl ⟨by rfl, fun w'' hS => by go_simp⟩) hS0 ?_
      (simp only [List.setIfInBounds_toArray, List.set_cons_zero, List.set_cons_succ])
      refine anyH_take 3 133 (.pointer (some ⟨L, 0, none⟩)) rfl rfl (by kernel_rfl) (by kernel_rfl) (by kernel_rfl) (fun _ _ _ h => h) (.inl ⟨by rfl, fun w'' hS => by go_simp⟩) hS0 ?_
      (simp only [List.setIfInBounds_toArray, List.set_cons_zero, List.set_cons_succ])
      refine anyH_take 4 134 (.int .u64 (c : Nat)) rfl rfl (by kernel_rfl) (by kernel_rfl) (by kernel_rfl) (fun _ _ _ h => h) (.inl ⟨by rfl, fun w'' hS => by have q0 := (HC.out w'' hS).1; go_simp⟩) hS0 ?_
      (simp only [List.setIfInBounds_toArray, List.set_cons_zero, List.set_cons_succ])
      refine anyH_take 5 135 (.int .u64 ((c : Int) + 1)) rfl rfl (by kernel_rfl) (by kernel_rfl) (by kernel_rfl) (fun _ _ _ h => h) (.inl ⟨by rfl, fun w'' hS => by go_simp⟩) hS0 ?_
      (simp only [List.setIfInBounds_toArray, List.set_cons_zero, List.set_cons_succ])
      refine anyH_take 6 136 (.pointer (some ⟨L, 0, none⟩)) rfl rfl (by kernel_rfl) (by kernel_rfl) (by kernel_rfl) (fun _ _ _ h => h) (.inl ⟨by rfl, fun w'' hS => by go_simp⟩) hS0 ?_
      (simp only [List.setIfInBounds_toArray, List.set_cons_zero, List.set_cons_succ])
      refine anyH_take 7 137 (.pointer (some ⟨L, 0, none⟩)) rfl rfl (by kernel_rfl) (by kernel_rfl) (by kernel_rfl) (fun _ _ _ h => h) (.inl ⟨by rfl, fun w'' hS => by go_simp⟩) hS0 ?_
      (simp only [List.setIfInBounds_toArray, List.set_cons_zero, List.set_cons_succ])
      refine anyH_take 8 138 (.pointer (some ⟨L, 1, none⟩)) rfl rfl (by kernel_rfl) (by kernel_rfl) (by kernel_rfl) (fun _ _ _ h => h) (.inl ⟨by rfl, fun w'' hS => by go_simp⟩) hS0 ?_
      (simp only [List.setIfInBounds_toArray, List.set_cons_zero, List.set_cons_succ])
      refine anyH_take 9 139 (.int .u64 (s : Nat)) rfl rfl (by kernel_rfl) (by kernel_rfl) (by kernel_rfl) (fun _ _ _ h => h) (.inl ⟨by rfl, fun w'' hS => by have q0 := (HC.out w'' hS).2; go_simp⟩) hS0 ?_
      (simp only [List.setIfInBounds_toArray, List.set_cons_zero, List.set_cons_succ])
      refine anyH_enter 10 140 (f := 15) (args := #[.int .u64 ((c : Int) + 1), .int .u64 (s : Nat)]) (by kernel_rfl) rfl rfl (by rfl) (by go_simp) ?_
      refine (rhead_any w5.drew (c + 1) s (by omega) (by have h1 := HHH.out.2.2.2.2.2.2.1.2.1; omega)).mono ?_
      rintro e w6 ⟨rfl, f6⟩
      rw [← HHH.out.2.2.2.2.2.2.2.1]
      have g6 : Fr (fun _ => False) w5 w6 := Fr.trans ((Fr.refl _ w5).drew) f6 (fun _ _ q => q)
      have g6b : Fr (fun b => b = bw) w5 w6 := g6.mono (fun _ _ q => q.elim)
      refine ⟨_, rfl, g6b, ?_⟩
      (simp only [List.setIfInBounds_toArray, List.set_cons_zero, List.set_cons_succ])
      obtain ⟨th, hst⟩ := (H4.out.2.2.2.1.keep (H5.out.2.2.1.trans g6 (fun _ _ q => q)) (fun q => q)).set (i := 0) (s := s1) (by rw [H2.out.2.2.1]; have := HZ.out.1; omega) HHH.out.2.2.2.2.2.2.2.2
      rw [Nat.zero_mul] at th hst
      have gX : Fr (fun b => b = bw) w5 (w6.setCells bw 0 (cellsB s1)) := Fr.setCells (F := fun b => b = bw) (b := bw) (vs := cellsB s1) (o := 0) (.inl rfl) g6b
      refine anyH_take 11 141 (.pointer (some ⟨bw, 0, none⟩)) rfl rfl (by kernel_rfl) (by kernel_rfl) (by kernel_rfl) (fun _ _ _ h => h) (.inl ⟨by rfl, fun w'' hS => by go_simp⟩) g6b ?_
      (simp only [List.setIfInBounds_toArray, List.set_cons_zero, List.set_cons_succ])
      refine anyH_skip 12 (w6.setCells bw 0 (cellsB s1)) (by kernel_rfl) rfl rfl (by rfl) (run_store_mid 45 _ _ rfl bw 0 (cellsB s1).toArray rfl rfl th (by rw [infoSector]; simp [cellsB_len, HHH.out.2.2.2.2.2.2.2.2]) (all_oneCell_toArray (cellsB_one _))) gX ?_
      refine wpAnyH_done (by kernel_rfl) ?_ _
      have hd5 := H4.out.1.new H5.out.2.2.1
      have hdX := hd5.keep gX (fun b q e => by rw [e] at q; exact H4.out.2.2.2.2.2.2.1 q)
      have hlgX := (H4.out.2.2.1.keep H5.out.2.2.1 id).keep gX (by have h1 := H4.out.2.2.2.2.2.2.2.1; have h2 := H4.out.2.2.2.2.2.2.2.2.1; omega)
      have hvX := (H4.out.2.2.2.2.2.1.keepB H5.out.2.2.1 (fun _ _ q => q)).keepB gX (fun b hb e => by have h1 := H4.out.2.2.2.2.2.2.2.1; omega)
      have hkX := H5.out.2.1.keep gX (fun b hb e => by have h1 := H4.out.2.2.2.2.2.2.2.1; have h2 := H4.out.2.2.2.2.2.2.2.2.2.1; omega)
      have hbX := H5.out.1.keep gX (by have := H5.out.2.2.2.1; omega)
      have fX : Fr (fun _ => False) w (w6.setCells bw 0 (cellsB s1)) := (H4.out.2.2.2.2.1.trans H5.out.2.2.1 (fun _ _ q => q)).trans gX (fun i hi e => by have := H4.out.2.2.2.2.2.2.2.2.2.2; omega)
      obtain ⟨WX, hWX⟩ : ∃ WX, WX = w6.setCells bw 0 (cellsB s1) := ⟨_, rfl⟩
      rw [← hWX] at hst hdX hlgX hvX hkX hbX fX ⊢
      have hrd : (d2.settle 0 [s1]).rd = d2.rd.set 0 s1 := HHH.out.2.2.2.2.1.2.2.1
      have k3 := hbX.cell 3
      simp only [List.getElem?_toArray, List.getElem?_cons_zero, List.getElem?_cons_succ] at k3
      have HRA := Lib.hid (rall_same hvX.rd hkX.rd)
      have HX9 := Lib.hid (And.intro hst (And.intro hdX (And.intro hlgX (And.intro hbX (And.intro fX hrd)))))
      clear hst hdX hlgX hvX hkX hbX fX hrd gX g6 g6b f6 th hd5 hWX hS0 hwc hcm
      go_wp2_with fail
      refine HRA.out.mono ?_
      rintro e w9 ⟨rfl, f9⟩
      clear HRA k3
      have e2 : (d2.settle 0 [s1]).rd.length = m := by rw [HX9.out.2.2.2.2.2, List.length_set]; exact H2.out.2.2.1
      have HSC := Lib.hid (lsectors_any (HX9.out.2.1.new f9) (n := m) (by have := HZ.out.1; omega) (by rw [e2]; exact Nat.le_refl _))
      rw [List.take_of_length_le (by rw [e2]; exact Nat.le_refl _), HX9.out.2.2.2.2.2] at HSC
      have HE := Lib.hid e2
      have H9 := Lib.hid f9
      clear e2 f9
      go_wp2_with fail
      refine HSC.out.mono ?_
      rintro e w10 ⟨b7, c7, rfl, _, j1, j2, hs7, f10⟩
      have hlr : (d2.rd.set 0 s1).length = m := by rw [List.length_set]; exact H2.out.2.2.1
      have f910 := H9.out.trans f10 (fun _ _ q => q)
      have HSM := Lib.hid (lsame_any (hs7.secV hlr.symm (by rw [hlr]; exact j1) j2) ((HX9.out.1.keep f910 (fun q => q)).secV hlr.symm (by rw [hlr]; exact H3.out.2.1) H3.out.2.2.1))
      rw [show decide (d2.rd.set 0 s1 = d2.rd.set 0 s1) = true by simp] at HSM
      have H10 := Lib.hid f910
      clear hs7 j1 j2 f10 f910 hlr HSC
      go_wp2_with fail
      refine HSM.out.mono ?_
      rintro e w11 ⟨rfl, f11⟩
      have f11' := H10.out.trans f11 (fun _ _ q => q)
      have HOP := Lib.hid (aopenL_any (HX9.out.2.1.new f11'))
      have hop0 : (d2.settle 0 [s1]).openL = [] := by
        refine List.eq_nil_iff_forall_not_mem.2 fun i hi => ?_
        exact (DS.openL_mem.1 hi).2 (HHH.out.2.2.2.2.1.2.2.2 i)
      rw [hop0] at HOP
      have H11 := Lib.hid f11'
      clear hop0 f11 f11' HSM
      go_wp2_with fail
      refine HOP.out.mono ?_
      rintro e w12 ⟨vo, rfl, hvo, f12⟩
      obtain ⟨Ao, co, rfl, _, _⟩ := own_slice hvo
      have f12' := H11.out.trans f12 (fun _ _ q => q)
      have HLG := Lib.hid (HX9.out.2.2.1.keep f12' id)
      have HBL := Lib.hid (HX9.out.2.2.2.1.keep f12' (fun q => q))
      have HFX := Lib.hid (HX9.out.2.2.2.2.1.trans f12' (fun _ _ q => q))
      have HC12 : Hid (∀ w'', Fr (fun _ => False) w12 w'' → w''.cell? ⟨L, 0, none⟩ = some (.int .u64 (c : Nat)) ∧ w''.cell? ⟨L, 1, none⟩ = some (.int .u64 (s : Nat)) ∧ w''.cell? ⟨L, 3, none⟩ = some (.slice AL nr cL)) := Lib.hid fun w'' f => by
        have hb := HBL.out.keep f (fun q => q)
        have h1 := hb.cell 0
        have h2 := hb.cell 1
        have h3 := hb.cell 3
        simp only [List.getElem?_toArray, List.getElem?_cons_zero, List.getElem?_cons_succ] at h1 h2 h3
        exact ⟨h1, h2, h3⟩
      have hwc : IntKind.u64.wrap ((c : Int) + 1) = (c : Int) + 1 := by simp [IntKind.wrap, IntKind.signed, IntKind.bits]; omega
      have hus9 : us ≤ z := by have h1 := H5.out.2.2.2.2.2; have h2 := HHH.out.2.2.2.2.2.1; omega
      have HUS := Lib.hid hus9
      have HNR := Lib.hid (And.intro H5.out.2.2.2.2.1 H5.out.2.2.2.2.2)
      obtain ⟨zr, hzr⟩ : ∃ zr, zr = z - us := ⟨_, rfl⟩
      have HRM1 : Hid (∀ w'', Fr (fun _ => False) w12 w'' → Calls Tryz.prog 21 #[.pointer (some ⟨lb, 0, none⟩)] w'' fun e w' => e = .returned (.int .i64 (zr : Nat)) ∧ Fr (fun _ => False) w12 w') := Lib.hid fun w'' f => by
        rw [hzr]
        have := lroom_any (HLG.out.keep f id) (by rw [← HNR.out.2]; exact HUS.out) (by omega)
        rw [← HNR.out.2] at this
        exact this.mono fun e w' q => ⟨q.1, by rw [q.2]; exact f.drew⟩
      have HRM2 : Hid (∀ w'', Fr (fun _ => False) w12 w'' → Calls Tryz.prog 22 #[.pointer (some ⟨L, 0, none⟩)] w'' fun e w' => e = .returned (.int .i64 (zr : Nat)) ∧ Fr (fun _ => False) w12 w') := Lib.hid fun w'' f => by
        rw [hzr]
        exact (rroom_any (HBL.out.keep f (fun q => q)) HUS.out (by omega)).mono fun e w' q => ⟨q.1, by rw [q.2]; exact f.drew⟩
      have HCN : Hid (∀ w'', Fr (fun _ => False) w12 w'' → Calls Tryz.prog 18 #[.pointer (some ⟨lb, 0, none⟩)] w'' fun e w' => e = .returned (.int .u64 ((c : Int) + 1)) ∧ Fr (fun _ => False) w12 w') := Lib.hid fun w'' f =>
        (lcount_any (HLG.out.keep f id)).mono fun e w' q => ⟨by rw [q.1]; simp, by rw [q.2]; exact f⟩
      have HLN : Hid (∀ w'', Fr (fun _ => False) w12 w'' → Calls Tryz.prog 20 #[.pointer (some ⟨lb, 0, none⟩)] w'' fun e w' => e = .returned (.int .i64 (nr : Nat)) ∧ Fr (fun _ => False) w12 w') := Lib.hid fun w'' f => by
        rw [HNR.out.1]
        exact (llen_any (HLG.out.keep f id)).mono fun e w' q => ⟨q.1, by rw [q.2]; exact f⟩
      clear hvo f12 f12' HOP hus9 hzr
      go_upto_region 21 with fail
      refine wp_region_held_drew (S := fun w' => Fr (fun _ => False) w12 w') (by kernel_rfl) ((Fr.refl _ _).drew) (fun hS0 => ?_)
      refine anyH_take 0 171 (.pointer (some ⟨lb, 0, none⟩)) rfl rfl (by kernel_rfl) (by kernel_rfl) (by kernel_rfl) (fun _ _ _ h => h) (.inl ⟨by rfl, fun w'' hS => by go_simp⟩) hS0 ?_
      (simp only [List.setIfInBounds_toArray, List.set_cons_zero, List.set_cons_succ])
      refine anyH_take 2 173 (.pointer (some ⟨L, 0, none⟩)) rfl rfl (by kernel_rfl) (by kernel_rfl) (by kernel_rfl) (fun _ _ _ h => h) (.inl ⟨by rfl, fun w'' hS => by go_simp⟩) hS0 ?_
      (simp only [List.setIfInBounds_toArray, List.set_cons_zero, List.set_cons_succ])
      refine anyH_take 3 174 (.pointer (some ⟨L, 0, none⟩)) rfl rfl (by kernel_rfl) (by kernel_rfl) (by kernel_rfl) (fun _ _ _ h => h) (.inl ⟨by rfl, fun w'' hS => by go_simp⟩) hS0 ?_
      (simp only [List.setIfInBounds_toArray, List.set_cons_zero, List.set_cons_succ])
      refine anyH_take 4 175 (.pointer (some ⟨L, 0, none⟩)) rfl rfl (by kernel_rfl) (by kernel_rfl) (by kernel_rfl) (fun _ _ _ h => h) (.inl ⟨by rfl, fun w'' hS => by go_simp⟩) hS0 ?_
      (simp only [List.setIfInBounds_toArray, List.set_cons_zero, List.set_cons_succ])
      refine anyH_take 5 176 (.int .u64 (c : Nat)) rfl rfl (by kernel_rfl) (by kernel_rfl) (by kernel_rfl) (fun _ _ _ h => h) (.inl ⟨by rfl, fun w'' hS => by have q0 := (HC12.out w'' hS).1; go_simp⟩) hS0 ?_
      (simp only [List.setIfInBounds_toArray, List.set_cons_zero, List.set_cons_succ])
      refine anyH_take 6 177 (.int .u64 ((c : Int) + 1)) rfl rfl (by kernel_rfl) (by kernel_rfl) (by kernel_rfl) (fun _ _ _ h => h) (.inl ⟨by rfl, fun w'' hS => by go_simp⟩) hS0 ?_
      (simp only [List.setIfInBounds_toArray, List.set_cons_zero, List.set_cons_succ])
      refine anyH_one 1 172 (.int .u64 ((c : Int) + 1)) (by kernel_rfl) (tame_call 172 rfl rfl (by rfl) (fun w'' hS => by go_simp) (fun w'' hS => HCN.out w'' hS)) hS0 (fun wa hS0 => ?_)
      (simp only [List.setIfInBounds_toArray, List.set_cons_zero, List.set_cons_succ])
      refine anyH_take 7 178 (.bool true) rfl rfl (by kernel_rfl) (by kernel_rfl) (by kernel_rfl) (fun _ _ _ h => h) (.inl ⟨by rfl, fun w'' hS => by go_simp⟩) hS0 ?_
      (simp only [List.setIfInBounds_toArray, List.set_cons_zero, List.set_cons_succ])
      refine anyH_take 8 179 (.bool true) rfl rfl (by kernel_rfl) (by kernel_rfl) (by kernel_rfl) (fun _ _ _ h => h) (.inl ⟨by rfl, fun w'' hS => by go_simp⟩) hS0 ?_
      (simp only [List.setIfInBounds_toArray, List.set_cons_zero, List.set_cons_succ])
      refine anyH_take 9 180 (.pointer (some ⟨lb, 0, none⟩)) rfl rfl (by kernel_rfl) (by kernel_rfl) (by kernel_rfl) (fun _ _ _ h => h) (.inl ⟨by rfl, fun w'' hS => by go_simp⟩) hS0 ?_
      (simp only [List.setIfInBounds_toArray, List.set_cons_zero, List.set_cons_succ])
      refine anyH_take 11 182 (.pointer (some ⟨L, 0, none⟩)) rfl rfl (by kernel_rfl) (by kernel_rfl) (by kernel_rfl) (fun _ _ _ h => h) (.inl ⟨by rfl, fun w'' hS => by go_simp⟩) hS0 ?_
      (simp only [List.setIfInBounds_toArray, List.set_cons_zero, List.set_cons_succ])
      refine anyH_take 12 183 (.pointer (some ⟨L, 0, none⟩)) rfl rfl (by kernel_rfl) (by kernel_rfl) (by kernel_rfl) (fun _ _ _ h => h) (.inl ⟨by rfl, fun w'' hS => by go_simp⟩) hS0 ?_
      (simp only [List.setIfInBounds_toArray, List.set_cons_zero, List.set_cons_succ])
      refine anyH_take 13 184 (.pointer (some ⟨L, 1, none⟩)) rfl rfl (by kernel_rfl) (by kernel_rfl) (by kernel_rfl) (fun _ _ _ h => h) (.inl ⟨by rfl, fun w'' hS => by go_simp⟩) hS0 ?_
      (simp only [List.setIfInBounds_toArray, List.set_cons_zero, List.set_cons_succ])
      refine anyH_take 14 185 (.int .u64 (s : Nat)) rfl rfl (by kernel_rfl) (by kernel_rfl) (by kernel_rfl) (fun _ _ _ h => h) (.inl ⟨by rfl, fun w'' hS => by have q0 := (HC12.out w'' hS).2.1; go_simp⟩) hS0 ?_
      (simp only [List.setIfInBounds_toArray, List.set_cons_zero, List.set_cons_succ])
      refine anyH_one 10 181 (.int .u64 (s : Nat)) (by kernel_rfl) (tame_call 181 rfl rfl (by rfl) (fun w'' hS => by go_simp) (fun w'' hS => ((lsince_any (HLG.out.keep hS id)).mono fun e w3 he => ⟨he.1, by rw [he.2]; exact hS⟩))) hS0 (fun wb hS0 => ?_)
      (simp only [List.setIfInBounds_toArray, List.set_cons_zero, List.set_cons_succ])
      refine anyH_take 15 186 (.bool true) rfl rfl (by kernel_rfl) (by kernel_rfl) (by kernel_rfl) (fun _ _ _ h => h) (.inl ⟨by rfl, fun w'' hS => by go_simp⟩) hS0 ?_
      (simp only [List.setIfInBounds_toArray, List.set_cons_zero, List.set_cons_succ])
      refine anyH_take 16 187 (.bool true) rfl rfl (by kernel_rfl) (by kernel_rfl) (by kernel_rfl) (fun _ _ _ h => h) (.inl ⟨by rfl, fun w'' hS => by go_simp⟩) hS0 ?_
      (simp only [List.setIfInBounds_toArray, List.set_cons_zero, List.set_cons_succ])
      refine anyH_take 17 188 (.bool true) rfl rfl (by kernel_rfl) (by kernel_rfl) (by kernel_rfl) (fun _ _ _ h => h) (.inl ⟨by rfl, fun w'' hS => by go_simp⟩) hS0 ?_
      (simp only [List.setIfInBounds_toArray, List.set_cons_zero, List.set_cons_succ])
      refine anyH_take 18 189 (.pointer (some ⟨lb, 0, none⟩)) rfl rfl (by kernel_rfl) (by kernel_rfl) (by kernel_rfl) (fun _ _ _ h => h) (.inl ⟨by rfl, fun w'' hS => by go_simp⟩) hS0 ?_
      (simp only [List.setIfInBounds_toArray, List.set_cons_zero, List.set_cons_succ])
      refine anyH_take 20 191 (.pointer (some ⟨L, 0, none⟩)) rfl rfl (by kernel_rfl) (by kernel_rfl) (by kernel_rfl) (fun _ _ _ h => h) (.inl ⟨by rfl, fun w'' hS => by go_simp⟩) hS0 ?_
      (simp only [List.setIfInBounds_toArray, List.set_cons_zero, List.set_cons_succ])
      refine anyH_take 21 192 (.pointer (some ⟨L, 0, none⟩)) rfl rfl (by kernel_rfl) (by kernel_rfl) (by kernel_rfl) (fun _ _ _ h => h) (.inl ⟨by rfl, fun w'' hS => by go_simp⟩) hS0 ?_
      (simp only [List.setIfInBounds_toArray, List.set_cons_zero, List.set_cons_succ])
      refine anyH_take 22 193 (.pointer (some ⟨L, 3, none⟩)) rfl rfl (by kernel_rfl) (by kernel_rfl) (by kernel_rfl) (fun _ _ _ h => h) (.inl ⟨by rfl, fun w'' hS => by go_simp⟩) hS0 ?_
      (simp only [List.setIfInBounds_toArray, List.set_cons_zero, List.set_cons_succ])
      refine anyH_take 23 194 (.slice AL nr cL) rfl rfl (by kernel_rfl) (by kernel_rfl) (by kernel_rfl) (fun _ _ _ h => h) (.inl ⟨by rfl, fun w'' hS => by have q0 := (HC12.out w'' hS).2.2; go_simp⟩) hS0 ?_
      (simp only [List.setIfInBounds_toArray, List.set_cons_zero, List.set_cons_succ])
      refine anyH_take 24 195 (.int .i64 (nr : Nat)) rfl rfl (by kernel_rfl) (by kernel_rfl) (by kernel_rfl) (fun _ _ _ h => h) (.inl ⟨by rfl, fun w'' hS => by go_simp⟩) hS0 ?_
      (simp only [List.setIfInBounds_toArray, List.set_cons_zero, List.set_cons_succ])
      refine anyH_one 19 190 (.int .i64 (nr : Nat)) (by kernel_rfl) (tame_call 190 rfl rfl (by rfl) (fun w'' hS => by go_simp) (fun w'' hS => HLN.out w'' hS)) hS0 (fun wc hS0 => ?_)
      (simp only [List.setIfInBounds_toArray, List.set_cons_zero, List.set_cons_succ])
      refine anyH_take 25 196 (.bool true) rfl rfl (by kernel_rfl) (by kernel_rfl) (by kernel_rfl) (fun _ _ _ h => h) (.inl ⟨by rfl, fun w'' hS => by go_simp⟩) hS0 ?_
      (simp only [List.setIfInBounds_toArray, List.set_cons_zero, List.set_cons_succ])
      refine anyH_take 26 197 (.bool true) rfl rfl (by kernel_rfl) (by kernel_rfl) (by kernel_rfl) (fun _ _ _ h => h) (.inl ⟨by rfl, fun w'' hS => by go_simp⟩) hS0 ?_
      (simp only [List.setIfInBounds_toArray, List.set_cons_zero, List.set_cons_succ])
      refine anyH_take 27 198 (.bool true) rfl rfl (by kernel_rfl) (by kernel_rfl) (by kernel_rfl) (fun _ _ _ h => h) (.inl ⟨by rfl, fun w'' hS => by go_simp⟩) hS0 ?_
      (simp only [List.setIfInBounds_toArray, List.set_cons_zero, List.set_cons_succ])
      refine anyH_take 28 199 (.pointer (some ⟨lb, 0, none⟩)) rfl rfl (by kernel_rfl) (by kernel_rfl) (by kernel_rfl) (fun _ _ _ h => h) (.inl ⟨by rfl, fun w'' hS => by go_simp⟩) hS0 ?_
      (simp only [List.setIfInBounds_toArray, List.set_cons_zero, List.set_cons_succ])
      refine anyH_take 30 201 (.pointer (some ⟨L, 0, none⟩)) rfl rfl (by kernel_rfl) (by kernel_rfl) (by kernel_rfl) (fun _ _ _ h => h) (.inl ⟨by rfl, fun w'' hS => by go_simp⟩) hS0 ?_
      (simp only [List.setIfInBounds_toArray, List.set_cons_zero, List.set_cons_succ])
      refine anyH_one 29 200 (.int .i64 (zr : Nat)) (by kernel_rfl) (tame_call 200 rfl rfl (by rfl) (fun w'' hS => by go_simp) (fun w'' hS => HRM1.out w'' hS)) hS0 (fun wd hS0 => ?_)
      (simp only [List.setIfInBounds_toArray, List.set_cons_zero, List.set_cons_succ])
      refine anyH_one 31 202 (.int .i64 (zr : Nat)) (by kernel_rfl) (tame_call 202 rfl rfl (by rfl) (fun w'' hS => by go_simp) (fun w'' hS => HRM2.out w'' hS)) hS0 (fun we hS0 => ?_)
      (simp only [List.setIfInBounds_toArray, List.set_cons_zero, List.set_cons_succ])
      refine anyH_take 32 203 (.bool true) rfl rfl (by kernel_rfl) (by kernel_rfl) (by kernel_rfl) (fun _ _ _ h => h) (.inl ⟨by rfl, fun w'' hS => by go_simp⟩) hS0 ?_
      (simp only [List.setIfInBounds_toArray, List.set_cons_zero, List.set_cons_succ])
      refine anyH_take 33 204 (.bool true) rfl rfl (by kernel_rfl) (by kernel_rfl) (by kernel_rfl) (fun _ _ _ h => h) (.inl ⟨by rfl, fun w'' hS => by go_simp⟩) hS0 ?_
      (simp only [List.setIfInBounds_toArray, List.set_cons_zero, List.set_cons_succ])
      refine anyH_take 34 205 (.bool true) rfl rfl (by kernel_rfl) (by kernel_rfl) (by kernel_rfl) (fun _ _ _ h => h) (.inl ⟨by rfl, fun w'' hS => by go_simp⟩) hS0 ?_
      (simp only [List.setIfInBounds_toArray, List.set_cons_zero, List.set_cons_succ])
      refine anyH_take 35 206 (.pointer (some ⟨lb, 0, none⟩)) rfl rfl (by kernel_rfl) (by kernel_rfl) (by kernel_rfl) (fun _ _ _ h => h) (.inl ⟨by rfl, fun w'' hS => by go_simp⟩) hS0 ?_
      (simp only [List.setIfInBounds_toArray, List.set_cons_zero, List.set_cons_succ])
      refine anyH_one 36 207 (.bool false) (by kernel_rfl) (tame_call 207 rfl rfl (by rfl) (fun w'' hS => by go_simp) (fun w'' hS => ((ldead_any (HLG.out.keep hS id)).mono fun e w3 he => ⟨he.1, by rw [he.2]; exact hS⟩))) hS0 (fun wf hS0 => ?_)
      (simp only [List.setIfInBounds_toArray, List.set_cons_zero, List.set_cons_succ])
      refine anyH_take 37 208 (.bool true) rfl rfl (by kernel_rfl) (by kernel_rfl) (by kernel_rfl) (fun _ _ _ h => h) (.inl ⟨by rfl, fun w'' hS => by go_simp⟩) hS0 ?_
      (simp only [List.setIfInBounds_toArray, List.set_cons_zero, List.set_cons_succ])
      refine anyH_take 38 209 (.bool true) rfl rfl (by kernel_rfl) (by kernel_rfl) (by kernel_rfl) (fun _ _ _ h => h) (.inl ⟨by rfl, fun w'' hS => by go_simp⟩) hS0 ?_
      (simp only [List.setIfInBounds_toArray, List.set_cons_zero, List.set_cons_succ])
      refine anyH_take 39 210 (.bool true) rfl rfl (by kernel_rfl) (by kernel_rfl) (by kernel_rfl) (fun _ _ _ h => h) (.inl ⟨by rfl, fun w'' hS => by go_simp⟩) hS0 ?_
      (simp only [List.setIfInBounds_toArray, List.set_cons_zero, List.set_cons_succ])
      refine anyH_one 40 211 (.bool true) (by kernel_rfl) (tame_call 211 rfl rfl (by rfl) (fun w'' hS => by go_simp) (fun w'' hS => ((known_any w'').mono fun e w3 he => ⟨he.1, hS.trans he.2 (fun _ _ q => q)⟩))) hS0 (fun wg hS0 => ?_)
      (simp only [List.setIfInBounds_toArray, List.set_cons_zero, List.set_cons_succ])
      refine anyH_take 41 212 (.bool true) rfl rfl (by kernel_rfl) (by kernel_rfl) (by kernel_rfl) (fun _ _ _ h => h) (.inl ⟨by rfl, fun w'' hS => by go_simp⟩) hS0 ?_
      (simp only [List.setIfInBounds_toArray, List.set_cons_zero, List.set_cons_succ])
      refine anyH_take 42 6 (.bool true) rfl rfl (by kernel_rfl) (by kernel_rfl) (by kernel_rfl) (fun _ _ _ h => h) (.inl ⟨by rfl, fun w'' hS => by go_simp⟩) hS0 ?_
      (simp only [List.setIfInBounds_toArray, List.set_cons_zero, List.set_cons_succ])
      refine wpAnyH_done (by kernel_rfl) ?_ _
      have HK := Lib.hid (HFX.out.trans hS0 (fun _ _ q => q))
      clear hS0
      go_wp2_with fail
      go_ret
      exact ⟨rfl, HK.out⟩
theorem opens_any {w : World} {v : Value} {xs : List CellD} (hx : CellV w v xs) {m z : Int} (hz0 : -9223372036854775808 ≤ z) (hz1 : z ≤ 9223372036854775807) :
    Calls Tryz.prog 3 #[.int .i64 m, .int .i64 z, v] w fun e w' => e = .returned (.bool true) ∧ Fr (fun _ => False) w w' := by
  by_cases h : m ≤ 80 ∧ xs.length ≤ 60
  · by_cases h1 : m < 1
    · exact opens_none hx h.2 h1
    · obtain ⟨m, rfl⟩ : ∃ k : Nat, m = k := ⟨m.toNat, by omega⟩
      cases hf : fitB (m : Int) z with
      | false => exact opens_unfit hx h.2 (by omega) (by omega) hz0 hz1 hf
      | true =>
        unfold fitB at hf
        simp only [Bool.and_eq_true, decide_eq_true_eq] at hf
        obtain ⟨z, rfl⟩ : ∃ k : Nat, z = k := ⟨z.toNat, by omega⟩
        exact opens_fit hx h.2 (by omega) (by omega) (by omega)
  · exact opens_out hx h
end Go.Proofs.YtjdbgojnpnlblaaGreat
