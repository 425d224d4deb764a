/- The law WalFormats. -/
import Derived.Test.YtobnfadcffhfdaaGreatVpf
namespace Go.Proofs.YtobnfadcffhfdaaGreat
open Go.RowKit

section
variable {ops : Array Oper} {o : Oper} {a : Act} {Q : Exit → Act → World → Prop}
theorem build_nought (w : World) : (Instr.build 45 #[]).run Tryz.prog w = .ok (av (nought 128)) w := by
  unfold Instr.build
  rw [Sem.run_bind, zeroSector]
  simp [run_underlying Tryz.underlying45, Instr.fill]
  kernel_rfl
theorem wpList_build_nought {rest : List Oper} {w : World} (hg : o.guard = none) (hop : o.op = .build 45 #[]) {l : List UInt8} (hl : l = nought 128)
    (hK : wpList Tryz.prog ops Q rest (a.put o.dst (av l)) w) : wpList Tryz.prog ops Q (o :: rest) a w := by
  refine wpList_plain hg fun K hK' => ?_
  have hr := build_nought w
  rw [← hl] at hr
  unfold Oper.wp execOp
  simp only [hop]
  simp [hr, Result.andThen]
  exact hK' _ _ hK
end
set_option maxRecDepth 100000 in
set_option maxHeartbeats 4000000 in
theorem formats_out {w : World} {v : Value} {xs : List CellD} (hx : CellV w v xs) {pv : Value} {ps : List Int} (hp : IntsAt w pv ps) {m z : Int} (hout : ¬ (m ≤ 80 ∧ xs.length ≤ 60 ∧ ps.length ≤ 200 ∧ fitB m z = true)) :
    Calls Tryz.prog 5 #[.int .i64 m, .int .i64 z, v, pv] w fun e w' => e = .returned (.bool true) ∧ Fr (fun _ => False) w w' := by
  obtain ⟨A, cap, rfl, hxm, _⟩ := hx
  obtain ⟨Ap, cp, rfl, hpm, _⟩ := hp
  have h9 : xs.length ≤ 9223372036854775807 := by simp only [maxLen] at hxm; omega
  have h8 : ps.length ≤ 9223372036854775807 := by simp only [maxLen] at hpm; omega
  generalize xs.length = n at *
  generalize ps.length = p at *
  clear hxm hpm
  by_cases h1 : m > 80
  · have h1' : 80 < m := h1
    clear hout
    go_enter Tryz.func5, Tryz.ntmps5
    go_wp2_with fail
    refine (known_any _).mono ?_
    rintro e wk ⟨rfl, fk⟩
    have HK := Lib.hid (fk)
    clear fk
    go_wp2_with fail
    go_ret
    exact ⟨rfl, HK.out⟩
  by_cases h2 : (n : Int) > 60
  · have h2' : (60 : Int) < (n : Int) := h2
    have h1' : ¬ 80 < m := h1
    clear hout
    go_enter Tryz.func5, Tryz.ntmps5
    go_wp2_with fail
    refine (known_any _).mono ?_
    rintro e wk ⟨rfl, fk⟩
    have HK := Lib.hid (fk)
    clear fk
    go_wp2_with fail
    go_ret
    exact ⟨rfl, HK.out⟩
  by_cases h3 : (p : Int) > 200
  · have h2' : ¬ (60 : Int) < (n : Int) := h2
    have h1' : ¬ 80 < m := h1
    have h3' : (200 : Int) < (p : Int) := h3
    clear hout
    go_enter Tryz.func5, Tryz.ntmps5
    go_wp2_with fail
    refine (known_any _).mono ?_
    rintro e wk ⟨rfl, fk⟩
    have HK := Lib.hid (fk)
    clear fk
    go_wp2_with fail
    go_ret
    exact ⟨rfl, HK.out⟩
  have h2' : ¬ (60 : Int) < (n : Int) := h2
  have h1' : ¬ 80 < m := h1
  have h3' : ¬ (200 : Int) < (p : Int) := h3
  have hf : fitB m z = false := by
    rw [Bool.eq_false_iff]
    intro q
    exact hout ⟨by omega, by omega, by omega, q⟩
  have HF := Lib.hid (rfits_any w m z)
  rw [hf] at HF
  clear hout hf
  go_enter Tryz.func5, Tryz.ntmps5
  go_wp2_with fail
  refine HF.out.mono ?_
  rintro e w1 ⟨rfl, rfl⟩
  clear HF
  go_wp2_with fail
  refine (known_any _).mono ?_
  rintro e wk ⟨rfl, fk⟩
  have HK := Lib.hid (fk)
  clear fk
  go_wp2_with fail
  go_ret
  exact ⟨rfl, HK.out⟩
set_option maxRecDepth 100000 in
set_option maxHeartbeats 8000000 in
theorem formats_in {w : World} {v : Value} {xs : List CellD} (hx : CellV w v xs) {pv : Value} {ps : List Int} (hp : IntsAt w pv ps) {m z : Nat} (h80 : m ≤ 80) (h60 : xs.length ≤ 60) (h200 : ps.length ≤ 200) (h4 : 4 ≤ z) (hzm : z + 1 ≤ m) :
    Calls Tryz.prog 5 #[.int .i64 m, .int .i64 z, v, pv] w fun e w' => e = .returned (.bool true) ∧ Fr (fun _ => False) w w' := by
  have HX := Lib.hid (And.intro hx (And.intro hp h60))
  obtain ⟨A, cap, rfl, hxm, _⟩ := hx
  obtain ⟨Ap, cp, rfl, hpm, hpb⟩ := hp
  have hfit : fitB (m : Int) (z : Int) = true := by unfold fitB; simp; omega
  have HF := Lib.hid (rfits_any w m z)
  rw [hfit] at HF
  obtain ⟨n, hn⟩ : ∃ n, n = xs.length := ⟨_, rfl⟩
  obtain ⟨p, hpp⟩ : ∃ p, p = ps.length := ⟨_, rfl⟩
  rw [← hn, ← hpp] at HX ⊢
  have g1 : ¬ (m : Int) > 80 := by omega
  have g1' : ¬ (80 : Int) < (m : Int) := by omega
  have g2 : ¬ (n : Int) > 60 := by omega
  have g2' : ¬ (60 : Int) < (n : Int) := by omega
  have g3 : ¬ (p : Int) > 200 := by omega
  have g3' : ¬ (200 : Int) < (p : Int) := by omega
  have HPB : Hid (∀ b, (Value.slice Ap p cp).ownBlock = some b → 0 < p → b < w.heap.size) := Lib.hid (fun b hb hp0 => by
    obtain ⟨b', o', rfl, hc⟩ := hpb (by omega)
    have hb2 : b' = b := by simpa [Value.ownBlock] using hb
    subst hb2
    obtain ⟨y, hy⟩ : ∃ y, ps[0]? = some y := ⟨_, List.getElem?_eq_getElem (by omega)⟩
    exact World.block_lt_of_cell? w _ (hc 0 y hy))
  have HZ := Lib.hid (And.intro h4 (And.intro hzm (And.intro h80 hpp)))
  have HNX := Lib.hid hn
  clear hxm hpm hpb hfit h60 h200 hn hpp h80 h4
  go_enter Tryz.func5, Tryz.ntmps5
  go_wp2_with fail
  refine HF.out.mono ?_
  rintro e w1 ⟨rfl, rfl⟩
  clear HF g1 g1' g2 g2' g3 g3'
  go_wp2_with fail
  refine (anew_any w (n := m) (by have := HZ.out.2.1; omega) (by have := HZ.out.2.2.1; omega)).mono ?_
  rintro e w1 ⟨g, P1, rfl, hd1, f1⟩
  have k0 := KD.new (N := m) (by omega)
  have H1 := Lib.hid (And.intro hd1 (And.intro f1 k0))
  clear hd1 f1 k0
  go_wp2_with fail
  refine (lwrite_any HX.out.1 (by have h1 := HX.out.2.2; have h2 := HNX.out; omega) (Nat.le_refl _) (H1.out.2.1.mono (fun _ _ q => q.elim)) H1.out.1 H1.out.2.2.fr (fun j => Nat.le_trans (H1.out.2.2.vs j) (by omega))).mono ?_
  rintro e w2 ⟨⟨r2, rfl⟩, ⟨P2, d2, hd2, hfr2, hln2, hvs2, hsub2⟩, f2⟩
  rw [H1.out.2.2.ln] at hln2
  have f2w : Fr (fun _ => False) w w2 := H1.out.2.1.trans f2 (fun i hi q => by have := (H1.out.1.2 i q).1; omega)
  have H2 := Lib.hid (And.intro hd2 (And.intro hfr2 (And.intro hln2 (And.intro hvs2 f2w))))
  clear hd2 hfr2 hln2 hvs2 hsub2 f2 f2w H1
  go_wp2_with fail
  refine (lsectors_any H2.out.1 (n := m) (by omega) (by rw [H2.out.2.2.1]; exact Nat.le_refl _)).mono ?_
  rintro e w3 ⟨bw, cw, rfl, hbw, hc1, hc2, hsb, f3⟩
  rw [List.take_of_length_le (by rw [H2.out.2.2.1]; exact Nat.le_refl _)] at hsb
  have hff := format_free H2.out.2.1 (z := z) (by rw [H2.out.2.2.1]; exact hzm)
  have HFM := Lib.hid (format_any (H2.out.1.new f3) (fun j => Nat.le_trans (H2.out.2.2.2.1 j) (by omega)) (z := z) HZ.out.1 (by have := HZ.out.2.2.1; omega) (by rw [H2.out.2.2.1]; exact hzm))
  rw [if_pos hff.1] at HFM
  have H3 := Lib.hid (And.intro hbw (And.intro hc1 (And.intro hc2 (And.intro hsb (And.intro f3 hff)))))
  clear hbw hc1 hc2 hsb f3 hff
  go_wp2_with fail
  refine HFM.out.mono ?_
  rintro e w4 ⟨rfl, ⟨P4, hp1, hp2⟩, f4⟩
  have hBW : w2.heap.size ≤ bw := H3.out.1
  have hP2 : ∀ b, P2 b → b < w2.heap.size := fun b q => (H2.out.1.2 b q).2
  have hbw3 : bw < w3.heap.size := by
    obtain ⟨cs, q, _⟩ := H3.out.2.2.2.1
    exact q.lt
  have hsb4 := H3.out.2.2.2.1.keep f4 (fun q => by have := hP2 bw q; omega)
  have hnP4 : ¬ P4 bw := fun q => by
    rcases hp2 bw q with q | q
    · have := hP2 bw q; omega
    · omega
  have f4w : Fr (fun _ => False) w w4 := (H2.out.2.2.2.2.trans H3.out.2.2.2.2.1 (fun _ _ q => q)).trans f4 (fun i hi q => by have := (H2.out.1.2 i q).1; omega)
  have hcf := crash_flat H3.out.2.2.2.2.2.2.2.2.1 ps
  have HCR := Lib.hid (acrash_pos hp1 (HX.out.2.1.keep f4w (fun _ _ q => q)) (fun b hb hp0 q => by
    have h1 := HPB.out b hb (by have := HZ.out.2.2.2; omega)
    have h2 := (hp1.2 b q).1
    omega) (fun j => by rw [H3.out.2.2.2.2.2.2.2.2.1 j]; exact Nat.zero_le _))
  have H4 := Lib.hid (And.intro hp1 (And.intro hnP4 (And.intro hsb4 (And.intro f4w hcf))))
  clear hp1 hp2 f4 hBW hP2 hbw3 hsb4 hnP4 f4w hcf HFM
  go_wp2_with fail
  refine HCR.out.mono ?_
  rintro e w5 ⟨rfl, hd5, f5⟩
  have hsb5 := H4.out.2.2.1.keep f5 H4.out.2.1
  have f5w : Fr (fun _ => False) w w5 := H4.out.2.2.2.1.trans f5 (fun i hi q => by have := (H4.out.1.2 i q).1; omega)
  have hbl : w.heap.size ≤ bw := Nat.le_trans H2.out.2.2.2.2.size H3.out.1
  have H5 := Lib.hid (And.intro hd5 (And.intro hsb5 (And.intro f5w hbl)))
  clear hd5 hsb5 f5 f5w hbl HCR
  go_wp2_with fail
  go_loopw [12] (fun i wr => ∃ k : Nat, i = .int .i64 k ∧ k ≤ z + 1 ∧ Hid (SecB wr bw (zerod d2.rd k)) ∧ Hid (Fr (fun b => b = bw) w5 wr)) (fun i _ => z + 1 - (intOf i).toNat)
  case atStart => exact ⟨0, rfl, Nat.zero_le _, Lib.hid H5.out.2.1, Lib.hid (Fr.refl _ _)⟩
  case round =>
    obtain ⟨k, rfl, hk, HS, HF⟩ := hrel
    by_cases hlt : k ≤ z
    · have hkl : k < (zerod d2.rd k).length := by rw [zerod_len (by rw [H2.out.2.2.1]; omega), H2.out.2.2.1]; omega
      obtain ⟨z0, hz0⟩ : ∃ z0, z0 = nought 128 := ⟨_, rfl⟩
      have hz0l : z0.length = 128 := by rw [hz0]; exact nought_len 128
      obtain ⟨th, hst⟩ := HS.out.set hkl hz0l
      have hzs : (zerod d2.rd k).set k z0 = zerod d2.rd (k + 1) := by rw [hz0]; exact zerod_succ (by rw [H2.out.2.2.1]; omega)
      rw [hzs] at hst
      have fT : Fr (fun b => b = bw) w5 (wr.setCells bw (k * 128) (cellsB z0)) := HF.out.trans (Fr.setCells (F := fun b => b = bw) (b := bw) (vs := cellsB z0) (o := k * 128) (.inl rfl) (Fr.refl _ wr)) (fun _ _ q => q)
      have HT := Lib.hid (And.intro th (And.intro hst (And.intro hz0 (And.intro hz0l fT))))
      have hi0 : (0 : Int) ≤ (k : Int) := by omega
      have hi1 : (k : Int) < (m : Int) := by omega
      have hi2 : (k : Int) ≤ (z : Int) := by omega
      have hz79 : z ≤ 79 := by have := HZ.out.2.2.1; omega
      clear th hst hkl hzs hz0 hz0l fT
      go_wp2_with (first
        | (refine wpList_build_nought rfl rfl HT.out.2.2.1 ?_)
        | (refine wpList_store_mid rfl 45 _ _ rfl bw (k * 128) (cellsB z0).toArray rfl rfl HT.out.1 (by rw [infoSector]; simp [cellsB_len, HT.out.2.2.2.1]) (all_oneCell_toArray (cellsB_one _)) ?_))
      exact ⟨⟨k + 1, by go_num, by omega, Lib.hid HT.out.2.1, Lib.hid HT.out.2.2.2.2⟩, by simp [intOf]; omega⟩
    · obtain rfl : k = z + 1 := by omega
      have hi2 : ¬ (((z + 1 : Nat) : Int) ≤ (z : Int)) := by omega
      clear hlt hk
      have hdr := H5.out.1.keep HF.out (fun b q e => by rw [e] at q; exact H4.out.2.1 q)
      have hcz := H4.out.2.2.2.2
      have HDR := Lib.hid hdr
      clear hdr
      go_wp2_with fail
      refine (rhead_any wr 1 1 (by omega) (by omega)).mono ?_
      rintro e w6 ⟨rfl, f6⟩
      obtain ⟨s6, hs6⟩ : ∃ s6, s6 = hdS 1 1 := ⟨_, rfl⟩
      rw [← hs6]
      have hsl : s6.length = 128 := by rw [hs6]; exact hdS_len 1 1
      obtain ⟨th, hst⟩ := (HS.out.keep f6 (fun q => q)).set (i := 0) (s := s6) (by rw [zerod_len (by rw [H2.out.2.2.1]; omega), H2.out.2.2.1]; omega) hsl
      have hfi := format_is H2.out.2.1 (z := z) (by rw [H2.out.2.2.1]; exact hzm)
      rw [← hs6] at hfi
      rw [hfi, Nat.zero_mul] at hst
      rw [Nat.zero_mul] at th
      have hd6 := (HDR.out.new f6).keep (Fr.setCells (F := fun b => b = bw) (b := bw) (vs := cellsB s6) (o := 0) (.inl rfl) (Fr.refl _ w6)) (fun b q e => by rw [e] at q; exact H4.out.2.1 q)
      have f6w : Fr (fun _ => False) w (w6.setCells bw 0 (cellsB s6)) := Fr.setCells (.inr H5.out.2.2.2) ((H5.out.2.2.1.trans HF.out (fun i hi q => by have := H5.out.2.2.2; omega)).trans f6 (fun _ _ q => q))
      have H6 := Lib.hid (And.intro th (And.intro hst (And.intro hd6 (And.intro f6w hsl))))
      have hm0 : (0 : Int) < (m : Int) := by omega
      clear th hst hd6 f6w hsl f6 hs6 hfi
      go_wp2_with (refine wpList_store_mid rfl 45 _ _ rfl bw 0 (cellsB s6).toArray rfl rfl H6.out.1 (by rw [infoSector]; simp [cellsB_len, H6.out.2.2.2.2]) (all_oneCell_toArray (cellsB_one _)) ?_)
      have e1 : ((d2.format z).crash ps).rd = (d2.format z).rd := hcz.1
      have e2 : ((d2.format z).crash ps).rd.length = m := by rw [e1, H3.out.2.2.2.2.2.2.2.1, H2.out.2.2.1]
      have HSC := Lib.hid (lsectors_any H6.out.2.2.1 (n := m) (by omega) (by rw [e2]; exact Nat.le_refl _))
      rw [List.take_of_length_le (by rw [e2]; exact Nat.le_refl _), e1] at HSC
      have HE := Lib.hid (And.intro e1 e2)
      clear e1 e2 hcz
      refine HSC.out.mono ?_
      rintro e w7 ⟨b7, c7, rfl, _, j1, j2, hs7, f7⟩
      have hlr : (d2.format z).rd.length = m := by rw [← HE.out.1]; exact HE.out.2
      have HSM := Lib.hid (lsame_any (hs7.secV hlr.symm (by rw [hlr]; exact j1) j2) ((H6.out.2.1.keep f7 (fun q => q)).secV hlr.symm (by rw [hlr]; exact H3.out.2.1) H3.out.2.2.1))
      rw [show decide ((d2.format z).rd = (d2.format z).rd) = true by simp] at HSM
      have H7 := Lib.hid (And.intro f7 hlr)
      clear hs7 j1 j2 f7 hlr HSC
      go_wp2_with fail
      refine HSM.out.mono ?_
      rintro e w8 ⟨rfl, f8⟩
      have f68 := H7.out.1.trans f8 (fun _ _ q => q)
      have hd8 := H6.out.2.2.1.new f68
      have f8w := H6.out.2.2.2.1.trans f68 (fun _ _ q => q)
      have hff := H3.out.2.2.2.2.2
      have hcf := H4.out.2.2.2.2
      have hhd : ((d2.format z).crash ps).head = hdS 1 1 := by
        unfold DS.head
        have := hff.2.2.2.2 0 (by have h1 := H2.out.2.2.1; have h2 := HZ.out.2.1; omega)
        rw [if_pos rfl] at this
        rw [hcf.1, List.getD_eq_getElem?_getD, this]
        rfl
      have hnum := hdS_nums (c := 1) (s := 1) (by decide) (by decide)
      have HO := Lib.hid (open_go hd8 (z := z) HZ.out.1 (by have := HZ.out.2.2.1; omega) (by rw [HE.out.2]; exact hzm) (by rw [hhd]; exact hdS_is_hd (by omega) (by omega) (by decide)) (by rw [hhd, hnum.1]; decide) (fun j => by rw [hcf.2.2 j]; exact Nat.zero_le _))
      rw [hhd, hnum.1, hnum.2] at HO
      have hrc : recs 1 1 ((((d2.format z).crash ps).rd.take (z + 1)).drop 1) = [] := recs_nought (by
        rw [List.getElem?_drop, List.getElem?_take, if_pos (by have := HZ.out.1; omega), hcf.1]
        have := hff.2.2.2.2 1 (by have h1 := H2.out.2.2.1; have h2 := HZ.out.2.1; have h3 := HZ.out.1; omega)
        rw [if_neg (by omega), if_pos (by have := HZ.out.1; omega)] at this
        exact this) _ _
      rw [hrc] at HO
      have hst := (settle_free hcf.2.1 0 [hdS (1 + 1) 1]).1
      have H8 := Lib.hid (And.intro hd8 (And.intro f8w hst))
      clear f8 f68 hd8 f8w hff hcf hhd hnum hrc hst HSM
      go_wp2_with fail
      refine HO.out.mono ?_
      rintro e w9 ⟨_, o2, _, f9⟩
      obtain ⟨lb, v, rfl, _, _, hv⟩ := o2 H8.out.2.2
      obtain ⟨Av, cv, rfl, _, _⟩ := hv.rd
      have f9w : Fr (fun _ => False) w w9 := H8.out.2.1.trans f9 (fun i hi q => by have := (H8.out.1.2 i q).1; omega)
      have H9 := Lib.hid f9w
      clear o2 f9 hv f9w HO
      go_wp2_with fail
      refine (known_any _).mono ?_
      rintro e wk ⟨rfl, fk⟩
      have HK := Lib.hid (H9.out.trans fk (fun _ _ q => q))
      clear fk
      go_wp2_with fail
      go_ret
      exact ⟨rfl, HK.out⟩
theorem formats_any {w : World} {v : Value} {xs : List CellD} (hx : CellV w v xs) {pv : Value} {ps : List Int} (hp : IntsAt w pv ps) {m z : Int} :
    Calls Tryz.prog 5 #[.int .i64 m, .int .i64 z, v, pv] w fun e w' => e = .returned (.bool true) ∧ Fr (fun _ => False) w w' := by
  by_cases h : m ≤ 80 ∧ xs.length ≤ 60 ∧ ps.length ≤ 200 ∧ fitB m z = true
  · obtain ⟨h1, h2, h3, h4⟩ := h
    unfold fitB at h4
    simp only [Bool.and_eq_true, decide_eq_true_eq] at h4
    obtain ⟨m, rfl⟩ : ∃ k : Nat, m = k := ⟨m.toNat, by omega⟩
    obtain ⟨z, rfl⟩ : ∃ k : Nat, z = k := ⟨z.toNat, by omega⟩
    exact formats_in hx hp (by omega) h2 h3 (by omega) (by omega)
  · exact formats_out hx hp h
end Go.Proofs.YtobnfadcffhfdaaGreat
