/- The law PageSlots. -/
import Derived.Test.YtijdbngjnhhheaaPro
namespace Go.Proofs.Ytijdbngjnhhheaa
open Go.RowKit

set_option maxRecDepth 100000 in
theorem trimK_gt (s : List Rec) {i : Nat} (h : isB s i = true) : ∀ k, i < k → i < trimK s k
  | 0, hk => by omega
  | k + 1, hk => by
    unfold trimK
    by_cases e : isB s k = true
    · rw [if_pos e]; omega
    · rw [if_neg e]
      refine trimK_gt s h k ?_
      by_cases e2 : i = k
      · subst e2; exact absurd h e
      · omega
set_option maxRecDepth 100000 in
/-- An act upon another slot leaves a slot's record. -/
theorem step_keeps {x : PD} {i : Nat} {b : List UInt8} (h : x.s[i]? = some (some b)) {a : ActP} (hne : ¬ (a.kd ≠ 1 ∧ a.kd ≠ 4 ∧ a.sl = (i : Int))) : (x.step a).s[i]? = some (some b) := by
  have hlt := (List.getElem?_eq_some_iff.1 h).1
  have hw : (x.want a).s[i]? = some (some b) := by
    unfold PD.want
    split
    · unfold PD.lay
      simp only
      have hne2 : i ≠ firstE x.s := fun e => by
        have h1 := firstE_empty (s := x.s) (by omega)
        rw [← e, h] at h1
        cases h1
      rw [putS_get _ _ (firstE_le x.s), if_neg hne2]
      exact h
    · split
      · split
        · next h3 =>
          obtain ⟨z, o, hz, ho⟩ := has_some h3
          have hzi : i ≠ z := fun e => by subst e; exact hne ⟨by omega, by omega, hz⟩
          rw [hz, Int.toNat_natCast]
          unfold PD.put
          simp only
          rw [putS_get _ _ (by have := (List.getElem?_eq_some_iff.1 ho).1; omega), if_neg hzi]
          exact h
        · exact h
      · split
        · split
          · next h3 =>
            obtain ⟨z, o, hz, ho⟩ := has_some h3
            have hzi : i ≠ z := fun e => by subst e; exact hne ⟨by omega, by omega, hz⟩
            rw [hz, Int.toNat_natCast]
            unfold PD.drop
            simp only
            have hg : (putS x.s z none)[i]? = some (some b) := by
              rw [putS_get _ _ (by have := (List.getElem?_eq_some_iff.1 ho).1; omega), if_neg hzi]
              exact h
            unfold trim
            rw [List.getElem?_take, if_pos]
            · exact hg
            · exact trimK_gt _ (isB_iff.2 ⟨b, hg⟩) _ (List.getElem?_eq_some_iff.1 hg).1
          · exact h
        · split
          · split
            · exact h
            · exact h
          · exact h
  unfold PD.step
  split
  · exact hw
  · exact h
section
variable {w : World} {v u : Value} {xs ys : List ActR}
set_option maxRecDepth 100000 in
set_option maxHeartbeats 8000000 in
theorem slots_in (h : ListV w v xs) (h2 : ListV w u ys) (hf : fewB xs 30 = true) (hf2 : fewB ys 30 = true) {kd : Nat} (hk : kd ≤ 4) {b : List UInt8} {A : Option Addr} {nb cb : Nat} (hnb : nb = b.length) (hrd : Rd w A nb b) (hcb : nb ≤ cb) (hb : nb ≤ 700) : Calls Try.prog 5 #[.int .i64 kd, v, .slice A nb cb, u] w fun e w' => e = .returned (.bool true) ∧ Fr (fun _ => False) w w' := by
  have F1 := few_any h 30
  rw [hf] at F1
  have F2 : ∀ W, Fr (fun _ => False) w W → Calls Try.prog 8 #[u, .int .i64 (30 : Nat)] W fun e w' => e = .returned (.bool true) ∧ Fr (fun _ => False) W w' := fun W f => by
    have := few_any (h2.new f) 30
    rwa [hf2] at this
  have hall : ∀ {l : List ActR}, fewB l 30 = true → ∀ x ∈ l, x.n ≤ 700 := fun q => by
    unfold fewB at q
    rw [Bool.and_eq_true, decide_eq_true_eq] at q
    exact q.1
  have CP : ∀ W, Fr (fun _ => False) w W → Calls Try.prog 10 #[.int .i64 kd, v] W _ := fun W f => plays_any (h.new f) hk (hall hf)
  obtain ⟨P, hP⟩ : ∃ P, P = (PD.mk kd 0 []).play xs := ⟨_, rfl⟩
  have kP : P.Ok := by rw [hP]; exact play_ok (ok_new hk) xs
  rw [← hP] at CP
  have HCP := Lib.hid CP
  obtain ⟨Lo, z10, e9, ho, hC⟩ := lay_all kP (a := ⟨1, 0, 0, b⟩) rfl
  have hlo := ho.len
  have hlp := kP.len
  have hgood : e9 = 0 → ∃ Q : PD, Q.Ok ∧ Lo = Q.bytes ∧ z10 = ((firstE P.s : Nat) : Int) ∧ Q.s[firstE P.s]? = some (some b) := fun h0 => by
    obtain ⟨g1, g2⟩ := ho.good h0
    refine ⟨P.step ⟨1, 0, 0, b⟩, step_ok kP _, g1, g2 rfl, ?_⟩
    have h0' : noOf P ⟨1, 0, 0, b⟩ = 0 := by rw [← ho.e]; exact h0
    unfold PD.step
    rw [if_pos h0']
    exact lay_at b
  have HGD := Lib.hid hgood
  have HKN : Hid (∀ W, Calls Try.prog 9 #[] W fun e w' => e = .returned (.bool true) ∧ Fr (fun _ => False) W w') := Lib.hid known_any
  have HLay : Hid (∀ W, Fr (fun _ => False) w W → Calls Try.prog 16 #[av P.bytes, .slice A nb cb] W fun e w' => e = .returned (.tuple #[av Lo, .int .i64 z10, .int .i64 e9]) ∧ Fr (fun _ => False) W w') := Lib.hid fun W f => hC W A nb cb hnb (hrd.keep f (fun _ _ q => q))
  obtain ⟨LP, hLP⟩ : ∃ L, L = P.bytes := ⟨_, rfl⟩
  rw [← hLP] at hlp HCP HLay
  have hup := Try.underlying26
  have hinP : (Try.prog.info? 26).map (·.size) = some (cellsB LP).length := by rw [infoPage, cellsB_len, hlp]
  have hk1 : ¬ ((kd : Int) < 0) := by omega
  have hk2 : ¬ ((kd : Int) > 4) := by omega
  have hk3 : ¬ (4 < (kd : Int)) := by omega
  have hn2 : ¬ ((nb : Int) > 700) := by omega
  have hn3 : ¬ (700 < (nb : Int)) := by omega
  obtain ⟨n, hn⟩ : ∃ n, n = ys.length := ⟨_, rfl⟩
  have HY := Lib.hid (And.intro hn (And.intro h2 (And.intro (hall hf2) (And.intro hnb hrd))))
  have HF2' := Lib.hid F2
  clear CP hC hgood ho kP hP hLP h hf hf2 hall hnb hrd F2 hn
  go_enter Try.func5, Try.ntmps5
  go_wp2_with fail
  refine F1.mono ?_
  rintro e w1 ⟨rfl, f1⟩
  have HF1 := Lib.hid f1
  clear F1 f1
  go_wp2_with fail
  refine (HF2'.out w1 HF1.out).mono ?_
  rintro e w1b ⟨rfl, f1b⟩
  have HF1b := Lib.hid (HF1.out.trans f1b (fun _ _ q => q))
  clear f1b HF1 HF2'
  go_wp2_with fail
  refine (HCP.out w1b HF1b.out).mono ?_
  rintro e w2 ⟨rfl, f2⟩
  have HF2 := Lib.hid (HF1b.out.trans f2 (fun _ _ q => q))
  clear f2 HF1b HCP
  go_upto_region 4 with (first | (refine wpList_zero rfl 26 rfl zeroPage ?_) | (refine wpList_store_mid rfl 26 _ _ rfl w2.heap.size 0 (cellsB LP).toArray rfl rfl (there_new w2 hlp) (by rw [infoPage]; simp [cellsB_len, hlp]) (all_oneCell_toArray (cellsB_one _)) ?_))
  obtain ⟨w3, hwx⟩ : ∃ X, X = (w2.alloc (.cells (cellsB (nought 512)).toArray 26)).setCells w2.heap.size 0 (cellsB LP) := ⟨_, rfl⟩
  have hbx := box_page hlp w3 hwx
  obtain ⟨g9, hg9⟩ : ∃ g, g = w2.heap.size := ⟨_, rfl⟩
  rw [← hg9] at hbx
  have hge : w.heap.size ≤ g9 := by rw [hg9]; exact HF2.out.size
  have HGE := Lib.hid hge
  have HB9 := Lib.hid hbx.1
  have HF3 := Lib.hid (HF2.out.trans hbx.2 (fun _ _ q => q))
  have q0 := Lib.hid (page_range hbx.1 hlp)
  rw [← hwx, ← hg9]
  clear hwx hbx HF2 hg9 hge
  go_wp2_with (refine wpList_load_want (by rfl) 26 _ rfl g9 0 rfl (cellsB LP) _ q0.out hup rfl hinP ?_)
  refine (HLay.out w3 HF3.out).mono ?_
  rintro e w4 ⟨rfl, f4⟩
  have hb9 := HB9.out.keep f4 (fun q => q)
  have hbo := hb9.over (o := 0) (m := Lo) (by omega)
  rw [patch_all (by omega)] at hbo
  have hfs := Fr.setCells (F := fun _ => False) (b := g9) (vs := cellsB Lo) (o := 0) (.inr HGE.out) (HF3.out.trans f4 (fun _ _ q => q))
  have HB9b := Lib.hid hb9
  have HQ := Lib.hid (And.intro hbo hfs)
  clear hb9 hbo hfs f4 q0 HB9 HF3 HLay
  go_upto_region 7 with (refine wpList_store_mid rfl 26 _ _ rfl g9 0 (cellsB Lo).toArray rfl rfl (HB9b.out.there (by simp [cellsB_len, hlp, hlo])) (by rw [infoPage]; simp [cellsB_len, hlo]) (all_oneCell_toArray (cellsB_one _)) ?_)
  obtain ⟨w5, hw5⟩ : ∃ X, X = w4.setCells g9 0 (cellsB Lo) := ⟨_, rfl⟩
  rw [← hw5] at HQ ⊢
  clear hw5 HB9b
  by_cases he : e9 = 0
  · obtain ⟨Q, kQ, hLo, hz, hQs⟩ := HGD.out he
    obtain ⟨i0, hi0⟩ : ∃ i, i = firstE P.s := ⟨_, rfl⟩
    rw [← hi0] at hz hQs
    have HQ0 : Hid (∃ Q : PD, Q.Ok ∧ Q.s[i0]? = some (some b) ∧ Blk w5 g9 26 (cellsB Q.bytes).toArray) := Lib.hid ⟨Q, kQ, hQs, by rw [← hLo]; exact HQ.out.1⟩
    have HF5 := Lib.hid HQ.out.2
    obtain ⟨Au, cu, hu, hlu, hau⟩ := HY.out.2.1
    rw [← HY.out.1] at hu hlu hau
    subst he hz hu
    have hn9 : n ≤ 9223372036854775807 := by simp only [maxLen] at hlu; omega
    have HAU := Lib.hid hau
    clear HGD kQ hLo hQs HQ hlu hau hi0
    go_wp2_with fail
    go_loopw [13] (fun i wr => ∃ k : Nat, i = .int .i64 k ∧ k ≤ n ∧ Hid (∃ Q : PD, Q.Ok ∧ Q.s[i0]? = some (some b) ∧ Blk wr g9 26 (cellsB Q.bytes).toArray) ∧ Hid (Fr (fun _ => False) w wr)) (fun i _ => n - (intOf i).toNat)
    case atStart => exact ⟨0, rfl, Nat.zero_le _, HQ0, HF5⟩
    case round =>
      obtain ⟨k, rfl, hkn, HQk, HFk⟩ := hrel
      clear HQ0 HF5
      by_cases hlt : k < n
      · obtain ⟨bb, off, rfl, hs⟩ := HAU.out (by omega)
        obtain ⟨x, hx⟩ : ∃ x, ys[k]? = some x := ⟨_, List.getElem?_eq_getElem (by have := HY.out.1; omega)⟩
        have hak := ((hs.new HFk.out) k x hx).1
        have har := (hs k x hx).2
        obtain ⟨c0, c1, -, -⟩ := range_cells (har wr HFk.out)
        have hi0' : (0 : Int) ≤ (k : Int) := by omega
        have hi1 : (k : Int) < (n : Int) := by omega
        have HX := Lib.hid (And.intro hx (And.intro hak har))
        clear hx hak har hs
        obtain ⟨xk, hxk⟩ : ∃ z, z = x.a.kd := ⟨_, rfl⟩
        obtain ⟨xs', hxs⟩ : ∃ z, z = x.a.sl := ⟨_, rfl⟩
        rw [← hxk] at c0
        rw [← hxs] at c1
        have HXE := Lib.hid (And.intro hxk hxs)
        clear hxk hxs
        go_upto_region 12 with (fail)
        go_cut [84] from 56 to 112 (fun s84 wx => s84 = .bool (decide (xk ≠ 1 ∧ xk ≠ 4 ∧ xs' = (i0 : Int))) ∧ wr = wx)
        case first =>
          by_cases e1 : xk = 1
          · have b1 : (xk != 1) = false := by simp [e1]
            have HD := Lib.hid (decide_eq_false (p := xk ≠ 1 ∧ xk ≠ 4 ∧ xs' = (i0 : Int)) (fun q => q.1 e1))
            clear e1
            go_wp2_with fail
            go_meet
            exact ⟨congrArg Value.bool HD.out.symm, rfl⟩
          · have b1 : (xk != 1) = true := by simp [e1]
            by_cases e4 : xk = 4
            · have b4 : (xk != 4) = false := by simp [e4]
              have HD := Lib.hid (decide_eq_false (p := xk ≠ 1 ∧ xk ≠ 4 ∧ xs' = (i0 : Int)) (fun q => q.2.1 e4))
              clear e1 e4
              go_wp2_with fail
              go_meet
              exact ⟨congrArg Value.bool HD.out.symm, rfl⟩
            · have b4 : (xk != 4) = true := by simp [e4]
              by_cases es : xs' = (i0 : Int)
              · have bs : (xs' == (i0 : Int)) = true := by simp [es]
                have HD := Lib.hid (decide_eq_true (p := xk ≠ 1 ∧ xk ≠ 4 ∧ xs' = (i0 : Int)) ⟨e1, e4, es⟩)
                clear e1 e4 es
                go_wp2_with fail
                go_meet
                exact ⟨congrArg Value.bool HD.out.symm, rfl⟩
              · have bs : (xs' == (i0 : Int)) = false := by simp [es]
                have HD := Lib.hid (decide_eq_false (p := xk ≠ 1 ∧ xk ≠ 4 ∧ xs' = (i0 : Int)) (fun q => es q.2.2))
                clear e1 e4 es
                go_wp2_with fail
                go_meet
                exact ⟨congrArg Value.bool HD.out.symm, rfl⟩
        case rest =>
          obtain ⟨rfl, rfl⟩ := hcut
          by_cases hsk : xk ≠ 1 ∧ xk ≠ 4 ∧ xs' = (i0 : Int)
          · rw [decide_eq_true hsk]
            clear hsk c0 c1
            go_wp2_with fail
            exact ⟨⟨k + 1, by go_num, by omega, HQk, HFk⟩, by simp [intOf]; omega⟩
          · rw [decide_eq_false hsk]
            have hsk2 : ¬ (x.a.kd ≠ 1 ∧ x.a.kd ≠ 4 ∧ x.a.sl = (i0 : Int)) := by rw [← HXE.out.1, ← HXE.out.2]; exact hsk
            obtain ⟨Q, kQ, hQs, hQb⟩ := HQk.out
            have CD : ∀ W, Fr (fun _ => False) wr W → Calls Try.prog 21 #[av Q.bytes, .agg (cellsA x).toArray] W _ := fun W f => do_any kQ HX.out.2.1.n (HX.out.2.1.new f).rd (HY.out.2.2.1 x (List.mem_of_getElem? HX.out.1)) HX.out.2.1.nc
            have hok2 := step_ok kQ x.a
            have hst2 := step_keeps hQs hsk2
            have hl2 := hok2.len
            have hPl := kQ.len
            have CG : ∀ W, Calls Try.prog 15 #[av (Q.step x.a).bytes, .int .i64 i0] W _ := fun W => get_any hok2 hst2
            have HD := Lib.hid CD
            have HPP : Hid (wr.rangeAt g9 0 (cellsB Q.bytes)) := Lib.hid (page_range hQb hPl)
            have HPA : Hid (∀ W, Fr (fun q => q = g9) wr W → W.rangeAt bb (off + k * 4) (cellsA x)) := Lib.hid fun W f => HX.out.2.2 W (HFk.out.trans f (fun i hi e => by have := HGE.out; omega))
            have hinQ : (Try.prog.info? 26).map (·.size) = some (cellsB Q.bytes).length := by rw [infoPage, cellsB_len, hPl]
            have hupa := Try.underlying43
            have hina : (Try.prog.info? 43).map (·.size) = some (cellsA x).length := infoAct
            have hinS : (Try.prog.info? 26).map (·.size) = some (cellsB (Q.step x.a).bytes).length := by rw [infoPage, cellsB_len, hl2]
            have HOK := Lib.hid (And.intro hok2 hst2)
            generalize hPb : Q.bytes = LQ at *
            obtain ⟨LS, hLS⟩ : ∃ L, L = (Q.step x.a).bytes := ⟨_, rfl⟩
            rw [← hLS] at hl2 CG hinS HD
            have HCG := Lib.hid CG
            have HLS := Lib.hid hLS
            have HQB := Lib.hid hQb
            clear hsk hsk2 c0 c1 kQ hQs hQb CD hok2 hst2 CG hLS hPb HQk
            go_upto_region 13 with (fail)
            refine wp_region_held_drew (S := fun w' => Fr (fun q => q = g9) wr w') (by kernel_rfl) ((Fr.refl _ _).drew) (fun hS0 => ?_)
            refine anyH_take 1 87 (.slice (some ⟨bb, off, none⟩) n cu) rfl rfl (by kernel_rfl) (by kernel_rfl) (by kernel_rfl) (fun _ _ _ h => h) (.inl ⟨by rfl, fun w'' hS => by go_simp⟩) hS0 ?_
            (simp only [List.setIfInBounds_toArray, List.set_cons_zero, List.set_cons_succ])
            refine anyH_take 2 88 (.int .i64 (k : Int)) rfl rfl (by kernel_rfl) (by kernel_rfl) (by kernel_rfl) (fun _ _ _ h => h) (.inl ⟨by rfl, fun w'' hS => by go_simp⟩) hS0 ?_
            (simp only [List.setIfInBounds_toArray, List.set_cons_zero, List.set_cons_succ])
            refine anyH_take 3 89 (.pointer (some ⟨bb, off + k * 4, none⟩)) rfl rfl (by kernel_rfl) (by kernel_rfl) (by kernel_rfl) (fun _ _ _ h => h) (.inl ⟨by rfl, fun w'' hS => by go_simp⟩) hS0 ?_
            (simp only [List.setIfInBounds_toArray, List.set_cons_zero, List.set_cons_succ])
            refine anyH_take 4 90 (.agg (cellsA x).toArray) rfl rfl (by kernel_rfl) (by kernel_rfl) (by kernel_rfl) (fun _ _ _ h => h) (yieldsIf_load_mid (by rfl) _ _ rfl _ _ rfl _ _ (fun w' f => HPA.out w' f) hupa rfl hina) hS0 ?_
            (simp only [List.setIfInBounds_toArray, List.set_cons_zero, List.set_cons_succ])
            refine anyH_value 0 86 (av LQ) wr.drew (by kernel_rfl) rfl rfl (by rfl) (run_load_mid 26 _ rfl g9 0 rfl (cellsB LQ) _ HPP.out hup rfl hinQ) hS0 ?_
            (simp only [List.setIfInBounds_toArray, List.set_cons_zero, List.set_cons_succ])
            refine anyH_enter 5 91 (by kernel_rfl) rfl rfl (by rfl) (by go_simp) ((HD.out _ ((Fr.refl (fun _ => False) _).drew)).mono ?_)
            rintro e wl ⟨rfl, -, fwl⟩
            have fvl : Fr (fun _ => False) wr wl := ((Fr.refl (fun _ => False) wr).drew).trans fwl (fun _ _ q => q)
            have swl : Fr (fun q => q = g9) wr wl := fvl.mono (fun _ _ q => q.elim)
            refine ⟨_, rfl, swl, ?_⟩
            (simp only [List.setIfInBounds_toArray, List.set_cons_zero, List.set_cons_succ])
            refine anyH_take 6 85 (.tuple #[av LS, .bool true]) rfl rfl (by kernel_rfl) (by kernel_rfl) (by kernel_rfl) (fun _ _ _ h => h) (.inl ⟨by rfl, fun w'' hS => by go_simp⟩) swl ?_
            (simp only [List.setIfInBounds_toArray, List.set_cons_zero, List.set_cons_succ])
            refine anyH_take 7 92 (av LS) rfl rfl (by kernel_rfl) (by kernel_rfl) (by kernel_rfl) (fun _ _ _ h => h) (.inl ⟨by rfl, fun w'' hS => by go_simp⟩) swl ?_
            (simp only [List.setIfInBounds_toArray, List.set_cons_zero, List.set_cons_succ])
            refine anyH_take 8 93 (.bool true) rfl rfl (by kernel_rfl) (by kernel_rfl) (by kernel_rfl) (fun _ _ _ h => h) (.inl ⟨by rfl, fun w'' hS => by go_simp⟩) swl ?_
            (simp only [List.setIfInBounds_toArray, List.set_cons_zero, List.set_cons_succ])
            have hb8 := HQB.out.keep fvl (fun q => q)
            refine anyH_skip 9 _ (by kernel_rfl) rfl rfl (by rfl) (run_store_mid 26 _ _ rfl g9 0 (cellsB LS).toArray rfl rfl (hb8.there (by simp [cellsB_len, hPl, hl2])) (by rw [infoPage]; simp [cellsB_len, hl2]) (all_oneCell_toArray (cellsB_one _))) (Fr.setCells (F := fun q => q = g9) (.inl rfl) swl) ?_
            have hbo := hb8.over (o := 0) (m := LS) (by omega)
            rw [patch_all (by omega)] at hbo
            have hS2 := Fr.setCells (F := fun q => q = g9) (b := g9) (vs := cellsB LS) (o := 0) (.inl rfl) swl
            refine anyH_take 10 10 (.bool true) rfl rfl (by kernel_rfl) (by kernel_rfl) (by kernel_rfl) (fun _ _ _ h => h) (.inl ⟨by rfl, fun w'' hS => by go_simp⟩) hS2 ?_
            (simp only [List.setIfInBounds_toArray, List.set_cons_zero, List.set_cons_succ])
            refine wpAnyH_done (by kernel_rfl) ?_ _
            have hfz : Fr (fun _ => False) w (wl.setCells g9 0 (cellsB LS)) := Fr.setCells (F := fun _ => False) (b := g9) (vs := cellsB LS) (o := 0) (.inr HGE.out) (HFk.out.trans fvl (fun _ _ q => q))
            obtain ⟨wm, hwm⟩ : ∃ W, W = wl.setCells g9 0 (cellsB LS) := ⟨_, rfl⟩
            rw [← hwm] at hbo hfz ⊢
            have HBM := Lib.hid hbo
            have HFM := Lib.hid hfz
            have q1 := Lib.hid (page_range hbo hl2)
            clear hbo hS2 hb8 swl fwl hS0 fvl hfz hwm
            go_wp2_with (refine wpList_load_want (by rfl) 26 _ rfl g9 0 rfl (cellsB LS) _ q1.out hup rfl hinS ?_)
            refine (HCG.out _).mono ?_
            rintro e wn ⟨vg, rfl, hnew, fn⟩
            obtain ⟨Ag, cg, rfl, hrg, -, -, -⟩ := hnew
            obtain ⟨S, hS⟩ : ∃ S : ByteArray, S = ⟨b.toArray⟩ := ⟨_, rfl⟩
            have cv1 : (convert 34 9 (.slice Ag b.length cg)).run Try.prog wn = .ok (.string S) wn := by rw [hS]; exact conv_string 34 9 5 hrg Try.underlying34 Try.underlying5 Try.underlying9
            have cv2 : (convert 34 9 (.slice A nb cb)).run Try.prog wn = .ok (.string S) wn := by rw [hS]; exact conv_string 34 9 5 (HY.out.2.2.2.2.keep (HFM.out.trans fn (fun _ _ q => q)) (fun _ _ q => q)) Try.underlying34 Try.underlying5 Try.underlying9
            have HQ2 : Hid (∃ Q : PD, Q.Ok ∧ Q.s[i0]? = some (some b) ∧ Blk wn g9 26 (cellsB Q.bytes).toArray) := Lib.hid ⟨Q.step x.a, HOK.out.1, HOK.out.2, by rw [← HLS.out]; exact HBM.out.keep fn (fun q => q)⟩
            have HFn := Lib.hid (HFM.out.trans fn (fun _ _ q => q))
            clear hrg hS fn q1 HBM HFM HOK HLS HCG
            go_wp2_with fail
            exact ⟨⟨k + 1, by go_num, by omega, HQ2, HFn⟩, by simp [intOf]; omega⟩
      · obtain rfl : n = k := by omega
        clear hlt hkn HQk
        go_wp2_with fail
        refine (HKN.out _).mono ?_
        rintro e w7 ⟨rfl, f7⟩
        have HF7 := Lib.hid (HFk.out.trans f7 (fun _ _ q => q))
        clear f7
        go_wp2_with fail
        go_ret
        exact ⟨rfl, HF7.out⟩
  · have heb : (e9 != 0) = true := by simp [he]
    have heb2 : (e9 == 0) = false := by simp [he]
    have HF5 := Lib.hid HQ.out.2
    clear he HGD HQ
    go_wp2_with fail
    refine (HKN.out _).mono ?_
    rintro e w7 ⟨rfl, f7⟩
    have HF7 := Lib.hid (HF5.out.trans f7 (fun _ _ q => q))
    clear f7
    go_wp2_with fail
    go_ret
    exact ⟨rfl, HF7.out⟩
set_option maxRecDepth 100000 in
theorem law_slots (h : ListV w v xs) (h2 : ListV w u ys) (kd : Int) {b : List UInt8} {A : Option Addr} {nb cb : Nat} (hnb : nb = b.length) (hrd : Rd w A nb b) (hcb : nb ≤ cb) (hb9 : nb ≤ 9223372036854775807) : Calls Try.prog 5 #[.int .i64 kd, v, .slice A nb cb, u] w fun e w' => e = .returned (.bool true) ∧ Fr (fun _ => False) w w' := by
  have F1 := few_any h 30
  have F2 : ∀ W, Fr (fun _ => False) w W → Calls Try.prog 8 #[u, .int .i64 (30 : Nat)] W fun e w' => e = .returned (.bool (fewB ys 30)) ∧ Fr (fun _ => False) W w' := fun W f => few_any (h2.new f) 30
  by_cases hf : fewB xs 30 = true
  · rw [hf] at F1
    by_cases hf2 : fewB ys 30 = true
    · by_cases hk : 0 ≤ kd
      · by_cases hk2 : kd ≤ 4
        · by_cases hn : nb ≤ 700
          · obtain ⟨k, rfl⟩ : ∃ k : Nat, kd = k := ⟨kd.toNat, by omega⟩
            exact slots_in h h2 hf hf2 (by omega) hnb hrd hcb hn
          · have q1 : ¬ (kd < 0) := by omega
            have q2 : ¬ (kd > 4) := by omega
            have q3 : (nb : Int) > 700 := by omega
            rw [hf2] at F2
            have HF2 := Lib.hid F2
            clear h h2 hf hf2 F2 hrd
            go_enter Try.func5, Try.ntmps5
            go_wp2_with fail
            refine F1.mono ?_
            rintro e w1 ⟨rfl, f1⟩
            have HF1 := Lib.hid f1
            clear F1 f1
            go_wp2_with fail
            refine (HF2.out w1 HF1.out).mono ?_
            rintro e w2 ⟨rfl, f2⟩
            have HF := Lib.hid (HF1.out.trans f2 (fun _ _ q => q))
            clear f2 HF2
            go_wp2_with fail
            refine (known_any w2).mono ?_
            rintro e w3 ⟨rfl, f3⟩
            have HF3 := Lib.hid (HF.out.trans f3 (fun _ _ q => q))
            clear f3
            go_wp2_with fail
            go_ret
            exact ⟨rfl, HF3.out⟩
        · have q1 : ¬ (kd < 0) := by omega
          have q2 : kd > 4 := by omega
          rw [hf2] at F2
          have HF2 := Lib.hid F2
          clear h h2 hf hf2 F2 hrd
          go_enter Try.func5, Try.ntmps5
          go_wp2_with fail
          refine F1.mono ?_
          rintro e w1 ⟨rfl, f1⟩
          have HF1 := Lib.hid f1
          clear F1 f1
          go_wp2_with fail
          refine (HF2.out w1 HF1.out).mono ?_
          rintro e w2 ⟨rfl, f2⟩
          have HF := Lib.hid (HF1.out.trans f2 (fun _ _ q => q))
          clear f2 HF2
          go_wp2_with fail
          refine (known_any w2).mono ?_
          rintro e w3 ⟨rfl, f3⟩
          have HF3 := Lib.hid (HF.out.trans f3 (fun _ _ q => q))
          clear f3
          go_wp2_with fail
          go_ret
          exact ⟨rfl, HF3.out⟩
      · have q1 : kd < 0 := by omega
        rw [hf2] at F2
        have HF2 := Lib.hid F2
        clear h h2 hf hf2 F2 hrd
        go_enter Try.func5, Try.ntmps5
        go_wp2_with fail
        refine F1.mono ?_
        rintro e w1 ⟨rfl, f1⟩
        have HF1 := Lib.hid f1
        clear F1 f1
        go_wp2_with fail
        refine (HF2.out w1 HF1.out).mono ?_
        rintro e w2 ⟨rfl, f2⟩
        have HF := Lib.hid (HF1.out.trans f2 (fun _ _ q => q))
        clear f2 HF2
        go_wp2_with fail
        refine (known_any w2).mono ?_
        rintro e w3 ⟨rfl, f3⟩
        have HF3 := Lib.hid (HF.out.trans f3 (fun _ _ q => q))
        clear f3
        go_wp2_with fail
        go_ret
        exact ⟨rfl, HF3.out⟩
    · have hf3 : fewB ys 30 = false := by simpa using hf2
      rw [hf3] at F2
      have HF2 := Lib.hid F2
      clear h h2 hf hf2 F2 hrd
      go_enter Try.func5, Try.ntmps5
      go_wp2_with fail
      refine F1.mono ?_
      rintro e w1 ⟨rfl, f1⟩
      have HF1 := Lib.hid f1
      clear F1 f1
      go_wp2_with fail
      refine (HF2.out w1 HF1.out).mono ?_
      rintro e w2 ⟨rfl, f2⟩
      have HF := Lib.hid (HF1.out.trans f2 (fun _ _ q => q))
      clear f2 HF2
      go_wp2_with fail
      refine (known_any w2).mono ?_
      rintro e w3 ⟨rfl, f3⟩
      have HF3 := Lib.hid (HF.out.trans f3 (fun _ _ q => q))
      clear f3
      go_wp2_with fail
      go_ret
      exact ⟨rfl, HF3.out⟩
  · have hf3 : fewB xs 30 = false := by simpa using hf
    rw [hf3] at F1
    clear h h2 hf F2 hrd
    go_enter Try.func5, Try.ntmps5
    go_wp2_with fail
    refine F1.mono ?_
    rintro e w1 ⟨rfl, f1⟩
    clear F1
    go_wp2_with fail
    refine (known_any w1).mono ?_
    rintro e w2 ⟨rfl, f2⟩
    have HF := Lib.hid (f1.trans f2 (fun _ _ q => q))
    clear f1 f2
    go_wp2_with fail
    go_ret
    exact ⟨rfl, HF.out⟩
end
end Go.Proofs.Ytijdbngjnhhheaa
