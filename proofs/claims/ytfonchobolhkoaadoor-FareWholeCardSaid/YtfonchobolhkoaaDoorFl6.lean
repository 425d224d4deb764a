/- The law FareWhole, of what fare's calls answer. -/
import Derived.Test.YtfonchobolhkoaaDoorFl1
namespace Go.Proofs.YtfonchobolhkoaaDoor
open Go.RowKit

set_option maxRecDepth 100000 in
set_option maxHeartbeats 4000000 in
theorem fwhole (P : FareP) {w : World} {v : Value} {zs : List Int} (a : Int) (ha0 : -9223372036854775808 ≤ a) (ha1 : a ≤ 9223372036854775807) (hv : IntsAt w v zs) (hvk : Vok w) : Calls Tryd.prog 4 #[.int .i64 a, v] w (Tru w) := by
  have HK := Lib.hid (fun W (fk : Fr (fun _ => False) w W) => fknown P W (hvk.keep fk))
  clear hvk
  have HV := Lib.hid hv
  obtain ⟨A, c1, rfl, hml, hA⟩ := hv
  obtain ⟨m, hm⟩ : ∃ m, m = zs.length := ⟨_, rfl⟩
  rw [← hm] at HV ⊢
  by_cases h1 : 64 < m
  · have h1i : (64 : Int) < (m : Int) := by omega
    clear hm hml hA h1 ha0 ha1
    go_enter Tryd.func4, Tryd.ntmps4
    go_wp2_with fail
    refine (HK.out _ (Fr.refl _ _)).mono ?_
    rintro e wk ⟨rfl, fk⟩
    have HFK := Lib.hid (fk)
    clear fk
    go_wp2_with fail
    go_ret
    exact ⟨rfl, HFK.out⟩
  · have h1i : ¬ (64 : Int) < (m : Int) := by omega
    have HW := Lib.hid (rmayw_any HV.out (by omega))
    cases hmw : mayW zs with
    | false =>
      rw [hmw] at HW
      clear hm hml hA h1 ha0 ha1 hmw
      go_enter Tryd.func4, Tryd.ntmps4
      go_wp2_with fail
      refine HW.out.mono ?_
      rintro e w1 ⟨rfl, rfl⟩
      go_wp2_with fail
      refine (HK.out _ (Fr.refl _ _)).mono ?_
      rintro e wk ⟨rfl, fk⟩
      have HFK := Lib.hid (fk)
      clear fk
      go_wp2_with fail
      go_ret
      exact ⟨rfl, HFK.out⟩
    | true =>
      rw [hmw] at HW
      by_cases h2 : a < 0
      · clear hm hml hA h1 ha0 ha1 hmw
        go_enter Tryd.func4, Tryd.ntmps4
        go_wp2_with fail
        refine HW.out.mono ?_
        rintro e w1 ⟨rfl, rfl⟩
        go_wp2_with fail
        refine (HK.out _ (Fr.refl _ _)).mono ?_
        rintro e wk ⟨rfl, fk⟩
        have HFK := Lib.hid (fk)
        clear fk
        go_wp2_with fail
        go_ret
        exact ⟨rfl, HFK.out⟩
      · by_cases h3 : 1000000000000 < a
        · clear hm hml hA h1 ha0 ha1 hmw
          go_enter Tryd.func4, Tryd.ntmps4
          go_wp2_with fail
          refine HW.out.mono ?_
          rintro e w1 ⟨rfl, rfl⟩
          go_wp2_with fail
          refine (HK.out _ (Fr.refl _ _)).mono ?_
          rintro e wk ⟨rfl, fk⟩
          have HFK := Lib.hid (fk)
          clear fk
          go_wp2_with fail
          go_ret
          exact ⟨rfl, HFK.out⟩
        · obtain ⟨n, rfl⟩ : ∃ n : Nat, a = n := ⟨a.toNat, by omega⟩
          obtain ⟨k1, k2, k3⟩ := may_nats hmw
          have HP := Lib.hid (P.deal w _ _ zs ha0 ha1 HV.out (by omega))
          have hde : dealE (n : Int) zs = 0 := by unfold dealE; rw [if_neg (by omega), if_neg (by rw [hmw]; simp), if_pos (by omega)]
          obtain ⟨ws, hws⟩ : ∃ ws, ws = zs.map Int.toNat := ⟨_, rfl⟩
          rw [← hws] at k1 k2 k3
          have hdr : dealR (n : Int) zs = upI (dealL n ws) := by unfold dealR; rw [hde, if_pos rfl, hws, Int.toNat_natCast]
          rw [hde, hdr] at HP
          rw [← k1] at HV
          have hwl : ws.length = m := by rw [hws, List.length_map, hm]
          obtain ⟨G, hG⟩ : ∃ G, G = dealL n ws := ⟨_, rfl⟩
          obtain ⟨S, hS⟩ : ∃ S, S = sumN ws := ⟨_, rfl⟩
          have hGl : G.length = m := by rw [hG, deal_len k3, hwl]
          have hGs : sumN G = n := by rw [hG, deal_sum k3]
          have HGN : Hid (∀ (k x g : Nat), ws[k]? = some x → G[k]? = some g → g = n * x / S ∨ (g = n * x / S + 1 ∧ n * x % S ≠ 0)) := Lib.hid (fun k x g hx hg => by
            obtain ⟨hk, hxe⟩ := List.getElem?_eq_some_iff.1 hx
            have := deal_near (a := n) k3 hk
            rw [hxe, ← hS, ← hG, hg] at this
            rcases this with q | ⟨q1, q2⟩
            · exact .inl (by injection q)
            · exact .inr ⟨by injection q1, q2⟩)
          have HGM : Hid (∀ (i k x y g h : Nat), ws[i]? = some x → ws[k]? = some y → G[i]? = some g → G[k]? = some h → y < x → h ≤ g) := Lib.hid (fun i k x y g h hx hy hg hh hlt => by
            obtain ⟨hi, hxe⟩ := List.getElem?_eq_some_iff.1 hx
            obtain ⟨hk, hye⟩ := List.getElem?_eq_some_iff.1 hy
            exact deal_mono (a := n) k3 hi hk (by rw [hxe, hye]; exact hlt) (by rw [← hG]; exact hg) (by rw [← hG]; exact hh))
          have HTG := Lib.hid (fun W (h : IntsAt W (.slice A m c1) (upI ws)) => rtog_any h (by simp; omega) (fun z hz => by
            obtain ⟨x, hx, rfl⟩ := List.mem_map.1 hz
            have := k2 x hx
            omega))
          rw [sumI_up, ← hS] at HTG
          have hSb := sumN_bd k2
          rw [← hS, hwl] at hSb
          have HPt : Hid (∀ (x : Nat) (W : World), x ∈ ws → Calls Tryd.prog 17 #[.int .i64 n, .int .i64 x, .int .i64 S] W fun e w' => e = .returned (.tuple #[.int .i64 (n * x / S : Nat), .int .i64 (n * x % S : Nat)]) ∧ Fr (fun _ => False) W w') := Lib.hid (fun x W hx => rpart_any n x S (by omega) (by rw [hS]; exact sumN_mem hx) (by omega) (by omega) W)
          have hm1 : 0 < m := by
            rw [← hwl]
            cases ws with
            | nil => simp at k3
            | cons _ _ => simp
          rw [← hG] at HP
          have hgm : ∀ (k g : Nat), G[k]? = some g → g ≤ n := fun k g hg => by rw [← hGs]; exact sumN_mem (List.mem_of_getElem? hg)
          have HS := Lib.hid (And.intro hwl (And.intro hGl (And.intro hGs (And.intro hgm hm1))))
          have hni : (n : Int) ≤ 1000000000000 := by omega
          have hn0 : (0 : Int) ≤ (n : Int) := by omega
          have hm9 : m ≤ 64 := by omega
          clear hm hml hA h1 ha0 ha1 hmw h2 h3 k1 k2 k3 hde hdr hws hwl hG hS hGl hGs hSb hm1 hgm
          go_enter Tryd.func4, Tryd.ntmps4
          go_wp2_with fail
          refine HW.out.mono ?_
          rintro e w0 ⟨rfl, rfl⟩
          go_wp2_with fail
          refine HP.out.mono ?_
          rintro e w1 ⟨v1, rfl, hv1, f1⟩
          obtain ⟨A2, c2, rfl, _, hA2⟩ := hv1
          obtain ⟨b2, o2, rfl, hc2⟩ := hA2 (by simp [HS.out.2.1]; exact HS.out.2.2.2.2)
          obtain ⟨A1, c1', e1, _, hA1⟩ := HV.out
          obtain ⟨e2, e3⟩ : A = A1 ∧ c1 = c1' := by injection e1 with x y z; exact ⟨x, z⟩
          obtain ⟨b1, o1, e4, hc1⟩ := hA1 (by simp [HS.out.1]; exact HS.out.2.2.2.2)
          rw [e4] at e2
          subst e2 e3
          clear e1 e4 hA1 hA2
          have HCW : Hid (∀ W, Fr (fun _ => False) w W → ∀ (k x : Nat), ws[k]? = some x → W.cell? ⟨b1, o1 + k, none⟩ = some (.int .i64 (x : Nat))) := Lib.hid (fun W g k x hx => by
            have h := hc1 k x (by simp [hx])
            exact (g.cell (World.block_lt_of_cell? w _ h) (fun q => q)).trans h)
          have HCG : Hid (∀ W, Fr (fun _ => False) w1 W → ∀ (k x : Nat), G[k]? = some x → W.cell? ⟨b2, o2 + k, none⟩ = some (.int .i64 (x : Nat))) := Lib.hid (fun W g k x hx => by
            have h := hc2 k x (by simp [hx])
            exact (g.cell (World.block_lt_of_cell? w1 _ h) (fun q => q)).trans h)
          have hgl : (upI G).length = m := by simp [HS.out.2.1]
          rw [hgl]
          have HF1 := Lib.hid f1
          have hmm : ((m : Int) != (m : Int)) = false := by simp
          clear hc1 hc2 f1 hgl
          go_wp2_with fail
          refine (HTG.out _ (HV.out.new0 HF1.out)).mono ?_
          rintro e w2 ⟨rfl, rfl⟩
          clear hmm
          go_wp2_with fail
          go_loopw [8, 9] (fun y x wr => ∃ k t : Nat, x = .int .i64 k ∧ y = .int .i64 t ∧ k ≤ m ∧ Hid (t = sumN (G.take k)) ∧ Hid (Fr (fun _ => False) w1 wr)) (fun _ x _ => m - (intOf x).toNat)
          case atStart => exact ⟨0, 0, rfl, rfl, Nat.zero_le _, Lib.hid rfl, Lib.hid (Fr.refl _ _)⟩
          case round =>
            obtain ⟨k, t, rfl, rfl, hk, HT, HF⟩ := hrel
            by_cases hlt : k < m
            · obtain ⟨x1, hx1⟩ : ∃ x, ws[k]? = some x := ⟨_, List.getElem?_eq_getElem (by rw [HS.out.1]; exact hlt)⟩
              obtain ⟨g1, hg1⟩ : ∃ x, G[k]? = some x := ⟨_, List.getElem?_eq_getElem (by rw [HS.out.2.1]; exact hlt)⟩
              have hd1 := HCW.out _ (HF1.out.trans HF.out (fun _ _ q => q)) k x1 hx1
              have HPk := Lib.hid (HPt.out x1 wr (List.mem_of_getElem? hx1))
              have hnear := HGN.out k x1 g1 hx1 hg1
              obtain ⟨q, hq⟩ : ∃ q, q = n * x1 / S := ⟨_, rfl⟩
              obtain ⟨r, hr⟩ : ∃ r, r = n * x1 % S := ⟨_, rfl⟩
              rw [← hq, ← hr] at hnear HPk
              have hk0 : (0 : Int) ≤ (k : Int) := by omega
              have hkm : (k : Int) < (m : Int) := by omega
              have HKI := Lib.hid (And.intro hk0 (And.intro hkm hlt))
              have hgn := HS.out.2.2.2.1 k g1 hg1
              have HGG := Lib.hid (And.intro hx1 (And.intro hg1 (And.intro hnear hgn)))
              have hgi : (g1 : Int) ≤ 1000000000000 := by omega
              have hqi : (q : Int) ≤ 1000000000000 := by omega
              clear hx1 hg1 hnear hq hr hlt hgn
              go_wp2_with fail
              refine HPk.out.mono ?_
              rintro e w3 ⟨rfl, f3⟩
              have HF3 := Lib.hid (HF.out.trans f3 (fun _ _ q => q))
              clear f3 hd1 HPk
              go_upto_region 12 with fail
              go_cut [81] from 63 to 81 (fun z wx => z = .bool false ∧ w3 = wx)
              case first =>
                have hd2 := HCG.out _ HF3.out k g1 HGG.out.2.1
                rcases HGG.out.2.2.1 with hn | ⟨hn1, hn2⟩
                · have hb : ((g1 : Int) != (q : Int)) = false := by rw [bne_eq_false_iff_eq]; omega
                  clear hn
                  go_wp2_with fail
                  go_meet
                  case rel => exact ⟨rfl, rfl⟩
                · have hb : ((g1 : Int) != (q : Int)) = true := by rw [bne_iff_ne]; omega
                  have hb2 : ((g1 : Int) != (q : Int) + 1) = false := by rw [bne_eq_false_iff_eq]; omega
                  have hb3 : ((r : Int) == 0) = false := by rw [beq_eq_false_iff_ne]; omega
                  clear hn1 hn2
                  go_wp2_with fail
                  go_meet
                  case rel => exact ⟨rfl, rfl⟩
              obtain ⟨rfl, rfl⟩ := hcut
              have HFR := HF3
              clear HF3 HF
              go_wp2_with fail
              go_loopw [12] (fun x wr => ∃ j : Nat, x = .int .i64 j ∧ j ≤ m ∧ Hid (Fr (fun _ => False) w1 wr)) (fun x _ => m - (intOf x).toNat)
              case atStart => exact ⟨0, rfl, Nat.zero_le _, HFR⟩
              case round =>
                obtain ⟨j, rfl, hj, HF⟩ := hrel
                by_cases hjm : j < m
                · obtain ⟨xj, hxj⟩ : ∃ x, ws[j]? = some x := ⟨_, List.getElem?_eq_getElem (by rw [HS.out.1]; exact hjm)⟩
                  obtain ⟨gj, hgj⟩ : ∃ x, G[j]? = some x := ⟨_, List.getElem?_eq_getElem (by rw [HS.out.2.1]; exact hjm)⟩
                  have HXJ : Hid (∀ W, Fr (fun _ => False) wr W → W.cell? ⟨b1, o1 + j, none⟩ = some (.int .i64 (xj : Nat))) := Lib.hid (fun W g => HCW.out W ((HF1.out.trans HF.out (fun _ _ q => q)).trans g (fun _ _ q => q)) j xj hxj)
                  have HX1 : Hid (∀ W, Fr (fun _ => False) wr W → W.cell? ⟨b1, o1 + k, none⟩ = some (.int .i64 (x1 : Nat))) := Lib.hid (fun W g => HCW.out W ((HF1.out.trans HF.out (fun _ _ q => q)).trans g (fun _ _ q => q)) k x1 HGG.out.1)
                  have HGJ : Hid (∀ W, Fr (fun _ => False) wr W → W.cell? ⟨b2, o2 + j, none⟩ = some (.int .i64 (gj : Nat))) := Lib.hid (fun W g => HCG.out W (HF.out.trans g (fun _ _ q => q)) j gj hgj)
                  have HG1 : Hid (∀ W, Fr (fun _ => False) wr W → W.cell? ⟨b2, o2 + k, none⟩ = some (.int .i64 (g1 : Nat))) := Lib.hid (fun W g => HCG.out W (HF.out.trans g (fun _ _ q => q)) k g1 HGG.out.2.1)
                  have HJ := Lib.hid (And.intro (show (0 : Int) ≤ (j : Int) by omega) (And.intro (show (j : Int) < (m : Int) by omega) hjm))
                  have hj0 := HJ.out.1
                  have hjj := HJ.out.2.1
                  by_cases hlx : xj < x1
                  · have HLX : Hid (decide (xj < x1) = true) := Lib.hid (decide_eq_true hlx)
                    have hle := HGM.out k j x1 xj g1 gj HGG.out.1 hxj HGG.out.2.1 hgj hlx
                    have HLG : Hid (decide (g1 < gj) = false) := Lib.hid (decide_eq_false (by omega))
                    clear hxj hgj hlx hle hjm
                    go_upto_region 17 with fail
                    refine wp_region_held_drew (S := fun w' => Fr (fun _ => False) wr w') (by kernel_rfl) ((Fr.refl _ wr).drew) (fun hS0 => ?_)
                    refine anyH_take 0 88 (.slice (some ⟨b1, o1, none⟩) m c1) rfl rfl (by kernel_rfl) (by kernel_rfl) (by kernel_rfl) (fun _ _ _ h => h) (.inl ⟨by rfl, fun w'' hS => by go_simp⟩) hS0 ?_
                    (simp only [List.setIfInBounds_toArray, List.set_cons_zero, List.set_cons_succ])
                    refine anyH_take 1 89 (.int .i64 (j : Nat)) rfl rfl (by kernel_rfl) (by kernel_rfl) (by kernel_rfl) (fun _ _ _ h => h) (.inl ⟨by rfl, fun w'' hS => by go_simp⟩) hS0 ?_
                    (simp only [List.setIfInBounds_toArray, List.set_cons_zero, List.set_cons_succ])
                    refine anyH_take 2 90 (.pointer (some ⟨b1, o1 + j, none⟩)) rfl rfl (by kernel_rfl) (by kernel_rfl) (by kernel_rfl) (fun _ _ _ h => h) (.inl ⟨by rfl, fun w'' hS => by have q0 := HJ.out.1; have q1 := HJ.out.2.1; have q2 := HJ.out.2.2; go_simp⟩) hS0 ?_
                    (simp only [List.setIfInBounds_toArray, List.set_cons_zero, List.set_cons_succ])
                    refine anyH_take 3 91 (.int .i64 (xj : Nat)) rfl rfl (by kernel_rfl) (by kernel_rfl) (by kernel_rfl) (fun _ _ _ h => h) (.inl ⟨by rfl, fun w'' hS => by have q0 := HXJ.out _ hS; go_simp⟩) hS0 ?_
                    (simp only [List.setIfInBounds_toArray, List.set_cons_zero, List.set_cons_succ])
                    refine anyH_take 4 92 (.slice (some ⟨b1, o1, none⟩) m c1) rfl rfl (by kernel_rfl) (by kernel_rfl) (by kernel_rfl) (fun _ _ _ h => h) (.inl ⟨by rfl, fun w'' hS => by go_simp⟩) hS0 ?_
                    (simp only [List.setIfInBounds_toArray, List.set_cons_zero, List.set_cons_succ])
                    refine anyH_take 5 93 (.int .i64 (k : Nat)) rfl rfl (by kernel_rfl) (by kernel_rfl) (by kernel_rfl) (fun _ _ _ h => h) (.inl ⟨by rfl, fun w'' hS => by go_simp⟩) hS0 ?_
                    (simp only [List.setIfInBounds_toArray, List.set_cons_zero, List.set_cons_succ])
                    refine anyH_take 6 94 (.pointer (some ⟨b1, o1 + k, none⟩)) rfl rfl (by kernel_rfl) (by kernel_rfl) (by kernel_rfl) (fun _ _ _ h => h) (.inl ⟨by rfl, fun w'' hS => by have q0 := HKI.out.1; have q1 := HKI.out.2.1; have q2 := HKI.out.2.2; go_simp⟩) hS0 ?_
                    (simp only [List.setIfInBounds_toArray, List.set_cons_zero, List.set_cons_succ])
                    refine anyH_take 7 95 (.int .i64 (x1 : Nat)) rfl rfl (by kernel_rfl) (by kernel_rfl) (by kernel_rfl) (fun _ _ _ h => h) (.inl ⟨by rfl, fun w'' hS => by have q0 := HX1.out _ hS; go_simp⟩) hS0 ?_
                    (simp only [List.setIfInBounds_toArray, List.set_cons_zero, List.set_cons_succ])
                    refine anyH_take 8 96 (.bool true) rfl rfl (by kernel_rfl) (by kernel_rfl) (by kernel_rfl) (fun _ _ _ h => h) (.inl ⟨by rfl, fun w'' hS => by have q0 := HLX.out; go_simp⟩) hS0 ?_
                    (simp only [List.setIfInBounds_toArray, List.set_cons_zero, List.set_cons_succ])
                    refine anyH_take 9 97 (.bool true) rfl rfl (by kernel_rfl) (by kernel_rfl) (by kernel_rfl) (fun _ _ _ h => h) (.inl ⟨by rfl, fun w'' hS => by go_simp⟩) hS0 ?_
                    (simp only [List.setIfInBounds_toArray, List.set_cons_zero, List.set_cons_succ])
                    refine anyH_take 10 98 (.slice (some ⟨b2, o2, none⟩) m c2) rfl rfl (by kernel_rfl) (by kernel_rfl) (by kernel_rfl) (fun _ _ _ h => h) (.inl ⟨by rfl, fun w'' hS => by go_simp⟩) hS0 ?_
                    (simp only [List.setIfInBounds_toArray, List.set_cons_zero, List.set_cons_succ])
                    refine anyH_take 11 99 (.int .i64 (j : Nat)) rfl rfl (by kernel_rfl) (by kernel_rfl) (by kernel_rfl) (fun _ _ _ h => h) (.inl ⟨by rfl, fun w'' hS => by go_simp⟩) hS0 ?_
                    (simp only [List.setIfInBounds_toArray, List.set_cons_zero, List.set_cons_succ])
                    refine anyH_take 12 100 (.pointer (some ⟨b2, o2 + j, none⟩)) rfl rfl (by kernel_rfl) (by kernel_rfl) (by kernel_rfl) (fun _ _ _ h => h) (.inl ⟨by rfl, fun w'' hS => by have q0 := HJ.out.1; have q1 := HJ.out.2.1; have q2 := HJ.out.2.2; go_simp⟩) hS0 ?_
                    (simp only [List.setIfInBounds_toArray, List.set_cons_zero, List.set_cons_succ])
                    refine anyH_take 13 101 (.int .i64 (gj : Nat)) rfl rfl (by kernel_rfl) (by kernel_rfl) (by kernel_rfl) (fun _ _ _ h => h) (.inl ⟨by rfl, fun w'' hS => by have q0 := HGJ.out _ hS; go_simp⟩) hS0 ?_
                    (simp only [List.setIfInBounds_toArray, List.set_cons_zero, List.set_cons_succ])
                    refine anyH_take 14 102 (.slice (some ⟨b2, o2, none⟩) m c2) rfl rfl (by kernel_rfl) (by kernel_rfl) (by kernel_rfl) (fun _ _ _ h => h) (.inl ⟨by rfl, fun w'' hS => by go_simp⟩) hS0 ?_
                    (simp only [List.setIfInBounds_toArray, List.set_cons_zero, List.set_cons_succ])
                    refine anyH_take 15 103 (.int .i64 (k : Nat)) rfl rfl (by kernel_rfl) (by kernel_rfl) (by kernel_rfl) (fun _ _ _ h => h) (.inl ⟨by rfl, fun w'' hS => by go_simp⟩) hS0 ?_
                    (simp only [List.setIfInBounds_toArray, List.set_cons_zero, List.set_cons_succ])
                    refine anyH_take 16 104 (.pointer (some ⟨b2, o2 + k, none⟩)) rfl rfl (by kernel_rfl) (by kernel_rfl) (by kernel_rfl) (fun _ _ _ h => h) (.inl ⟨by rfl, fun w'' hS => by have q0 := HKI.out.1; have q1 := HKI.out.2.1; have q2 := HKI.out.2.2; go_simp⟩) hS0 ?_
                    (simp only [List.setIfInBounds_toArray, List.set_cons_zero, List.set_cons_succ])
                    refine anyH_take 17 105 (.int .i64 (g1 : Nat)) rfl rfl (by kernel_rfl) (by kernel_rfl) (by kernel_rfl) (fun _ _ _ h => h) (.inl ⟨by rfl, fun w'' hS => by have q0 := HG1.out _ hS; go_simp⟩) hS0 ?_
                    (simp only [List.setIfInBounds_toArray, List.set_cons_zero, List.set_cons_succ])
                    refine anyH_take 18 106 (.bool false) rfl rfl (by kernel_rfl) (by kernel_rfl) (by kernel_rfl) (fun _ _ _ h => h) (.inl ⟨by rfl, fun w'' hS => by have q0 := HLG.out; go_simp⟩) hS0 ?_
                    (simp only [List.setIfInBounds_toArray, List.set_cons_zero, List.set_cons_succ])
                    refine anyH_take 19 107 (.bool false) rfl rfl (by kernel_rfl) (by kernel_rfl) (by kernel_rfl) (fun _ _ _ h => h) (.inl ⟨by rfl, fun w'' hS => by go_simp⟩) hS0 ?_
                    (simp only [List.setIfInBounds_toArray, List.set_cons_zero, List.set_cons_succ])
                    refine wpAnyH_done (by kernel_rfl) ?_ _
                    have HF2 := Lib.hid (HF.out.trans hS0 (fun _ _ q => q))
                    clear hS0
                    go_wp2_with fail
                    refine ⟨⟨j + 1, by norm_cast, by have := HJ.out.2.2; omega, HF2⟩, ?_⟩
                    simp only [intOf]
                    have := HJ.out.2.2
                    omega
                  · have HLX : Hid (decide (xj < x1) = false) := Lib.hid (decide_eq_false hlx)
                    clear hxj hgj hlx hjm
                    go_upto_region 17 with fail
                    refine wp_region_held_drew (S := fun w' => Fr (fun _ => False) wr w') (by kernel_rfl) ((Fr.refl _ wr).drew) (fun hS0 => ?_)
                    refine anyH_take 0 88 (.slice (some ⟨b1, o1, none⟩) m c1) rfl rfl (by kernel_rfl) (by kernel_rfl) (by kernel_rfl) (fun _ _ _ h => h) (.inl ⟨by rfl, fun w'' hS => by go_simp⟩) hS0 ?_
                    (simp only [List.setIfInBounds_toArray, List.set_cons_zero, List.set_cons_succ])
                    refine anyH_take 1 89 (.int .i64 (j : Nat)) rfl rfl (by kernel_rfl) (by kernel_rfl) (by kernel_rfl) (fun _ _ _ h => h) (.inl ⟨by rfl, fun w'' hS => by go_simp⟩) hS0 ?_
                    (simp only [List.setIfInBounds_toArray, List.set_cons_zero, List.set_cons_succ])
                    refine anyH_take 2 90 (.pointer (some ⟨b1, o1 + j, none⟩)) rfl rfl (by kernel_rfl) (by kernel_rfl) (by kernel_rfl) (fun _ _ _ h => h) (.inl ⟨by rfl, fun w'' hS => by have q0 := HJ.out.1; have q1 := HJ.out.2.1; have q2 := HJ.out.2.2; go_simp⟩) hS0 ?_
                    (simp only [List.setIfInBounds_toArray, List.set_cons_zero, List.set_cons_succ])
                    refine anyH_take 3 91 (.int .i64 (xj : Nat)) rfl rfl (by kernel_rfl) (by kernel_rfl) (by kernel_rfl) (fun _ _ _ h => h) (.inl ⟨by rfl, fun w'' hS => by have q0 := HXJ.out _ hS; go_simp⟩) hS0 ?_
                    (simp only [List.setIfInBounds_toArray, List.set_cons_zero, List.set_cons_succ])
                    refine anyH_take 4 92 (.slice (some ⟨b1, o1, none⟩) m c1) rfl rfl (by kernel_rfl) (by kernel_rfl) (by kernel_rfl) (fun _ _ _ h => h) (.inl ⟨by rfl, fun w'' hS => by go_simp⟩) hS0 ?_
                    (simp only [List.setIfInBounds_toArray, List.set_cons_zero, List.set_cons_succ])
                    refine anyH_take 5 93 (.int .i64 (k : Nat)) rfl rfl (by kernel_rfl) (by kernel_rfl) (by kernel_rfl) (fun _ _ _ h => h) (.inl ⟨by rfl, fun w'' hS => by go_simp⟩) hS0 ?_
                    (simp only [List.setIfInBounds_toArray, List.set_cons_zero, List.set_cons_succ])
                    refine anyH_take 6 94 (.pointer (some ⟨b1, o1 + k, none⟩)) rfl rfl (by kernel_rfl) (by kernel_rfl) (by kernel_rfl) (fun _ _ _ h => h) (.inl ⟨by rfl, fun w'' hS => by have q0 := HKI.out.1; have q1 := HKI.out.2.1; have q2 := HKI.out.2.2; go_simp⟩) hS0 ?_
                    (simp only [List.setIfInBounds_toArray, List.set_cons_zero, List.set_cons_succ])
                    refine anyH_take 7 95 (.int .i64 (x1 : Nat)) rfl rfl (by kernel_rfl) (by kernel_rfl) (by kernel_rfl) (fun _ _ _ h => h) (.inl ⟨by rfl, fun w'' hS => by have q0 := HX1.out _ hS; go_simp⟩) hS0 ?_
                    (simp only [List.setIfInBounds_toArray, List.set_cons_zero, List.set_cons_succ])
                    refine anyH_take 8 96 (.bool false) rfl rfl (by kernel_rfl) (by kernel_rfl) (by kernel_rfl) (fun _ _ _ h => h) (.inl ⟨by rfl, fun w'' hS => by have q0 := HLX.out; go_simp⟩) hS0 ?_
                    (simp only [List.setIfInBounds_toArray, List.set_cons_zero, List.set_cons_succ])
                    refine anyH_take 9 97 (.bool false) rfl rfl (by kernel_rfl) (by kernel_rfl) (by kernel_rfl) (fun _ _ _ h => h) (.inl ⟨by rfl, fun w'' hS => by go_simp⟩) hS0 ?_
                    (simp only [List.setIfInBounds_toArray, List.set_cons_zero, List.set_cons_succ])
                    refine anyH_take 10 98 undef rfl rfl (by kernel_rfl) (by kernel_rfl) (by kernel_rfl) (fun _ _ _ h => h) (.inr ⟨by rfl, rfl⟩) hS0 ?_
                    (simp only [List.setIfInBounds_toArray, List.set_cons_zero, List.set_cons_succ])
                    refine anyH_take 11 99 undef rfl rfl (by kernel_rfl) (by kernel_rfl) (by kernel_rfl) (fun _ _ _ h => h) (.inr ⟨by rfl, rfl⟩) hS0 ?_
                    (simp only [List.setIfInBounds_toArray, List.set_cons_zero, List.set_cons_succ])
                    refine anyH_take 12 100 undef rfl rfl (by kernel_rfl) (by kernel_rfl) (by kernel_rfl) (fun _ _ _ h => h) (.inr ⟨by rfl, rfl⟩) hS0 ?_
                    (simp only [List.setIfInBounds_toArray, List.set_cons_zero, List.set_cons_succ])
                    refine anyH_take 13 101 undef rfl rfl (by kernel_rfl) (by kernel_rfl) (by kernel_rfl) (fun _ _ _ h => h) (.inr ⟨by rfl, rfl⟩) hS0 ?_
                    (simp only [List.setIfInBounds_toArray, List.set_cons_zero, List.set_cons_succ])
                    refine anyH_take 14 102 undef rfl rfl (by kernel_rfl) (by kernel_rfl) (by kernel_rfl) (fun _ _ _ h => h) (.inr ⟨by rfl, rfl⟩) hS0 ?_
                    (simp only [List.setIfInBounds_toArray, List.set_cons_zero, List.set_cons_succ])
                    refine anyH_take 15 103 undef rfl rfl (by kernel_rfl) (by kernel_rfl) (by kernel_rfl) (fun _ _ _ h => h) (.inr ⟨by rfl, rfl⟩) hS0 ?_
                    (simp only [List.setIfInBounds_toArray, List.set_cons_zero, List.set_cons_succ])
                    refine anyH_take 16 104 undef rfl rfl (by kernel_rfl) (by kernel_rfl) (by kernel_rfl) (fun _ _ _ h => h) (.inr ⟨by rfl, rfl⟩) hS0 ?_
                    (simp only [List.setIfInBounds_toArray, List.set_cons_zero, List.set_cons_succ])
                    refine anyH_take 17 105 undef rfl rfl (by kernel_rfl) (by kernel_rfl) (by kernel_rfl) (fun _ _ _ h => h) (.inr ⟨by rfl, rfl⟩) hS0 ?_
                    (simp only [List.setIfInBounds_toArray, List.set_cons_zero, List.set_cons_succ])
                    refine anyH_take 18 106 undef rfl rfl (by kernel_rfl) (by kernel_rfl) (by kernel_rfl) (fun _ _ _ h => h) (.inr ⟨by rfl, rfl⟩) hS0 ?_
                    (simp only [List.setIfInBounds_toArray, List.set_cons_zero, List.set_cons_succ])
                    refine anyH_take 19 107 (.bool false) rfl rfl (by kernel_rfl) (by kernel_rfl) (by kernel_rfl) (fun _ _ _ h => h) (.inl ⟨by rfl, fun w'' hS => by go_simp⟩) hS0 ?_
                    (simp only [List.setIfInBounds_toArray, List.set_cons_zero, List.set_cons_succ])
                    refine wpAnyH_done (by kernel_rfl) ?_ _
                    have HF2 := Lib.hid (HF.out.trans hS0 (fun _ _ q => q))
                    clear hS0
                    go_wp2_with fail
                    refine ⟨⟨j + 1, by norm_cast, by have := HJ.out.2.2; omega, HF2⟩, ?_⟩
                    simp only [intOf]
                    have := HJ.out.2.2
                    omega
                · obtain rfl : j = m := by omega
                  have hd2 := HCG.out _ HF.out k g1 HGG.out.2.1
                  have hts : t + g1 = sumN (G.take (k + 1)) := by rw [List.take_add_one, HGG.out.2.1, HT.out]; exact (sumN_snoc _ _).symm
                  have htb : t ≤ n := by rw [HT.out, ← HS.out.2.2.1]; exact sumN_take _ _
                  have hti : (t : Int) ≤ 1000000000000 := by omega
                  have HTS := Lib.hid hts
                  have hjn : ¬ (j : Int) < (j : Int) := by omega
                  clear hts htb hjm
                  go_wp2_with fail
                  refine ⟨⟨k + 1, t + g1, by norm_cast, by norm_cast, by have := HKI.out.2.2; omega, HTS, HF⟩, ?_⟩
                  simp only [intOf]
                  have := HKI.out.2.2
                  omega
            · obtain rfl : k = m := by omega
              have ht : t = n := by rw [HT.out, List.take_of_length_le (by rw [HS.out.2.1]; exact Nat.le_refl _), HS.out.2.2.1]
              subst ht
              have hb : ((t : Int) == (t : Int)) = true := by simp
              have hbn : (t == t) = true := by simp
              clear hlt
              go_wp2_with fail
              refine (HK.out _ (HF1.out.trans HF.out (fun _ _ q => q))).mono ?_
              rintro e wk ⟨rfl, fk⟩
              have HFK := Lib.hid ((HF1.out.trans HF.out (fun _ _ q => q)).trans fk (fun _ _ q => q))
              clear fk
              go_wp2_with fail
              go_ret
              exact ⟨rfl, HFK.out⟩
end Go.Proofs.YtfonchobolhkoaaDoor
