/- PoolLogs. -/
import Derived.Test.YtpdfpnpkbknhnaaGreatQli
import Derived.Deep.CutBlock
namespace Go.Proofs.YtpdfpnpkbknhnaaGreat
open Go.RowKit

set_option maxRecDepth 100000 in
set_option maxHeartbeats 16000000 in
theorem logs_any {w : World} {v : Value} {xs : List ActR} (pages small great : Int) (hl : ListV w v xs) : Calls Tryz.prog 5 #[.int .i64 pages, .int .i64 small, .int .i64 great, v] w fun e w' => e = .returned (.bool true) ∧ Fr (fun _ => False) w w' := by
  have HFW := Lib.hid (few_any hl 40)
  obtain ⟨A, cap, rfl, hxl, hx2⟩ := hl
  obtain ⟨m, hm⟩ : ∃ m, m = xs.length := ⟨_, rfl⟩
  have HF1 := Lib.hid (lfits_any w pages small)
  have HF2 := Lib.hid (lfits_any w pages great)
  obtain ⟨t1, ht1⟩ : ∃ t, t = fitsB pages small := ⟨_, rfl⟩
  obtain ⟨t2, ht2⟩ : ∃ t, t = fitsB pages great := ⟨_, rfl⟩
  obtain ⟨tw, htw⟩ : ∃ tw, tw = fewB xs 40 := ⟨_, rfl⟩
  have HND := Lib.hid (lneed3 w)
  obtain ⟨N3, hN3⟩ : ∃ N3 : Nat, N3 = wneedN 3 := ⟨_, rfl⟩
  rw [← ht1] at HF1
  rw [← ht2] at HF2
  rw [← htw] at HFW
  rw [← hm] at HFW hxl hx2 ⊢
  rw [← hN3] at HND
  have HL := Lib.hid (And.intro hm (And.intro hx2 (And.intro ht1 (And.intro ht2 (And.intro htw hN3)))))
  have hm9 : m ≤ 9223372036854775807 := by simp only [maxLen] at hxl; omega
  clear hxl hx2 hm ht1 ht2 htw hN3
  go_enter Tryz.func5, Tryz.ntmps5
  go_wp2_with fail
  refine HF1.out.mono ?_
  rintro e w0 ⟨rfl, rfl⟩
  clear HF1
  cases t1 with
  | false =>
    go_wp2_with fail
    refine (known_any _).mono ?_
    rintro e w9 ⟨rfl, f9⟩
    have H9 := Lib.hid f9
    clear f9
    go_wp2_with fail
    go_ret
    exact ⟨rfl, H9.out⟩
  | true =>
    go_wp2_with fail
    refine HF2.out.mono ?_
    rintro e w0 ⟨rfl, rfl⟩
    clear HF2
    cases t2 with
    | false =>
      go_wp2_with fail
      refine (known_any _).mono ?_
      rintro e w9 ⟨rfl, f9⟩
      have H9 := Lib.hid f9
      clear f9
      go_wp2_with fail
      go_ret
      exact ⟨rfl, H9.out⟩
    | true =>
      by_cases h20 : pages > 20
      · go_wp2_with fail
        refine (known_any _).mono ?_
        rintro e w9 ⟨rfl, f9⟩
        have H9 := Lib.hid f9
        clear f9
        go_wp2_with fail
        go_ret
        exact ⟨rfl, H9.out⟩
      go_wp2_with fail
      refine HND.out.mono ?_
      rintro e w0 ⟨rfl, rfl⟩
      by_cases h3 : small < N3
      · go_wp2_with fail
        refine (known_any _).mono ?_
        rintro e w9 ⟨rfl, f9⟩
        have H9 := Lib.hid f9
        clear f9
        go_wp2_with fail
        go_ret
        exact ⟨rfl, H9.out⟩
      go_wp2_with fail
      refine HND.out.mono ?_
      rintro e w0 ⟨rfl, rfl⟩
      by_cases h4 : great < N3
      · go_wp2_with fail
        refine (known_any _).mono ?_
        rintro e w9 ⟨rfl, f9⟩
        have H9 := Lib.hid f9
        clear f9
        go_wp2_with fail
        go_ret
        exact ⟨rfl, H9.out⟩
      go_wp2_with fail
      refine HFW.out.mono ?_
      rintro e w1 ⟨rfl, f1⟩
      have H1 := Lib.hid f1
      clear f1 HND HFW
      cases tw with
      | false =>
        go_wp2_with fail
        refine (known_any _).mono ?_
        rintro e w9 ⟨rfl, f9⟩
        have H9 := Lib.hid f9
        clear f9
        go_wp2_with fail
        go_ret
        exact ⟨rfl, H1.out.trans H9.out (fun _ _ q => q)⟩
      | true =>
        obtain ⟨hp4, hp8, hz4, hz8⟩ : 4 ≤ pages ∧ pages ≤ 80 ∧ 4 ≤ small ∧ small ≤ 400 := by
          have := HL.out.2.2.1
          unfold fitsB at this
          simpa [Bool.and_eq_true, decide_eq_true_eq, and_assoc] using this.symm
        obtain ⟨_, _, hy4, hy8⟩ : 4 ≤ pages ∧ pages ≤ 80 ∧ 4 ≤ great ∧ great ≤ 400 := by
          have := HL.out.2.2.2.1
          unfold fitsB at this
          simpa [Bool.and_eq_true, decide_eq_true_eq, and_assoc] using this.symm
        obtain ⟨hsx, hm5⟩ : (∀ x ∈ xs, x.n ≤ 600) ∧ m ≤ 40 := by
          have := HL.out.2.2.2.2.1
          unfold fewB at this
          rw [← HL.out.1] at this
          simpa [Bool.and_eq_true, decide_eq_true_eq] using this.symm
        obtain ⟨P, rfl⟩ : ∃ P : Nat, pages = P := ⟨pages.toNat, by omega⟩
        obtain ⟨Z1, rfl⟩ : ∃ Z : Nat, small = Z := ⟨small.toNat, by omega⟩
        obtain ⟨Z2, rfl⟩ : ∃ Z : Nat, great = Z := ⟨great.toNat, by omega⟩
        have HGZ : Hid (wneedN 3 ≤ Z1 ∧ wneedN 3 ≤ Z2) := Lib.hid (by have := HL.out.2.2.2.2.2; omega)
        have HSX := Lib.hid hsx
        have HB1 := Lib.hid (begun4 w1 (pages := P) (z := Z1) (by omega) (by omega) (by omega) (by omega))
        clear hsx
        go_wp2_with fail
        refine HB1.out.mono ?_
        rintro e w2 ⟨g, p, S1, x0, rfl, hA1, hF1, f2⟩
        have HB2 := Lib.hid (begun4 w2 (pages := P) (z := Z2) (by omega) (by omega) (by omega) (by omega))
        have H2 := Lib.hid (And.intro hA1 (And.intro hF1 f2))
        clear hA1 hF1 f2 HB1
        go_wp2_with fail
        refine HB2.out.mono ?_
        rintro e w3 ⟨g', q, S2, y0, rfl, hA2, hF2, f3⟩
        have s1 := H1.out.size
        have s2 := H2.out.2.2.size
        have hPP : PP w3 w.heap.size (fun _ => False) p g q g' x0 y0 := ⟨S1, S2, (H2.out.1.low s1).new f3, hA2.low (by omega), fun b h1 h2 => by have := (H2.out.1.sub b h1).2; have := (hA2.sub b h2).1; omega, fun b hb => hb.elim⟩
        have H3 := Lib.hid (And.intro hPP (And.intro (Logs.fresh H2.out.2.1 hF2) ((H1.out.trans H2.out.2.2 (fun _ _ q => q)).trans f3 (fun _ _ q => q))))
        clear hPP hA2 hF2 f3 HB2 s1 s2
        go_wp2_with fail
        go_loopw [15] (fun i wr => ∃ k : Nat, i = .int .i64 k ∧ k ≤ m ∧ Hid (∃ x y, PP wr w.heap.size (fun _ => False) p g q g' x y ∧ Logs x y (3 + k) Z1 Z2 ∧ x.N = P ∧ x.m ≤ 2) ∧ Hid (Fr (fun b => w.heap.size ≤ b) w wr)) (fun i _ => m - (intOf i).toNat)
        case atStart => exact ⟨0, rfl, Nat.zero_le _, Lib.hid ⟨x0, y0, H3.out.1, H3.out.2.1⟩, Lib.hid (H3.out.2.2.mono (fun _ _ q => q.elim))⟩
        case round =>
          obtain ⟨k, rfl, hk, HS, HF⟩ := hrel
          by_cases hlt : k < m
          · obtain ⟨x, y, hPP, hTw⟩ := HS.out
            obtain ⟨b, off, rfl, hs⟩ := HL.out.2.1 (by omega)
            obtain ⟨s, hsk⟩ : ∃ s, xs[k]? = some s := ⟨_, List.getElem?_eq_getElem (by have := HL.out.1; omega)⟩
            obtain ⟨hak, har⟩ := hs k s hsk
            have hn6 := HSX.out s (List.mem_of_getElem? hsk)
            obtain ⟨⟨kd, sl, nx, bl⟩, As, ns, cs⟩ := s
            have hrg : wr.rangeAt b (off + k * 4) [.int .i64 kd, .int .i64 sl, .int .i64 nx, .slice As ns cs] := fun j u hj => by
              have h0 := har w (Fr.refl _ _) j u hj
              exact (HF.out.cell (World.block_lt_of_cell? w _ h0) (fun q => by have := World.block_lt_of_cell? w _ h0; omega)).trans h0
            have hrdw : Rd w As ns bl := hak.rd
            have hn6' : ns ≤ 600 := hn6
            obtain ⟨WZ, hWZ⟩ : ∃ WZ, WZ = wr.alloc (.cells #[.int .i64 kd, .int .i64 sl, .int .i64 nx, .slice As ns cs] 48) := ⟨_, rfl⟩
            have fZ : Fr (fun _ => False) wr WZ := by rw [hWZ]; exact (Fr.refl _ wr).alloc _
            have hb8 : Blk WZ wr.heap.size 48 #[.int .i64 kd, .int .i64 sl, .int .i64 nx, .slice As ns cs] := by
              rw [hWZ]
              exact Blk.new wr _ _
            obtain ⟨X, hX⟩ : ∃ X : Nat → Prop, X = fun b => b = wr.heap.size := ⟨_, rfl⟩
            have hPZ := hPP.mark (X' := X) fZ (fun b hb => by rw [hX] at hb; have := hb8.lt; omega)
            have HZ := Lib.hid (And.intro hPZ (And.intro hTw.1 (And.intro hTw.2.1 (And.intro hTw.2.2 (And.intro (HF.out.trans fZ (fun _ _ q => q.elim)) hX)))))
            have hlow : ∀ W, Fr (fun b => w.heap.size ≤ b ∧ ¬ X b) WZ W → Fr (fun b => w.heap.size ≤ b) w W := fun W f => HZ.out.2.2.2.2.1.trans f (fun _ _ q => q.1)
            have HLO := Lib.hid hlow
            have HCC : Hid (∀ W, Fr (fun b => w.heap.size ≤ b ∧ ¬ X b) WZ W → W.cell? ⟨wr.heap.size, 0, none⟩ = some (.int .i64 kd) ∧ W.cell? ⟨wr.heap.size, 1, none⟩ = some (.int .i64 sl) ∧ W.cell? ⟨wr.heap.size, 3, none⟩ = some (.slice As ns cs)) := Lib.hid fun W f => by
              have q := hb8.keep f (fun q => q.2 (by rw [hX]))
              exact ⟨by rw [q.cell]; rfl, by rw [q.cell]; rfl, by rw [q.cell]; rfl⟩
            have hk0 : (0 : Int) ≤ (k : Int) := by omega
            have hkm : (k : Int) < (m : Int) := by omega
            clear hPP hTw hs hsk hak har hn6 hb8 hPZ hX hlt hlow HS
            go_upto_region 11 with (refine wpList_load_mid rfl 48 _ rfl b (off + k * 4) rfl [.int .i64 kd, .int .i64 sl, .int .i64 nx, .slice As ns cs] _ hrg Tryz.underlying48 rfl infoAct ?_)
            rw [← hWZ]
            have hc0 := (HCC.out WZ (Fr.refl _ _)).1
            clear hWZ hrg
            go_upto_block 2 with fail
            go_cut [] from 83 to 134 (fun wx => ∃ (x' y' : PX), Hid (PP wx w.heap.size X p g q g' x' y' ∧ Logs x' y' (3 + k) Z1 Z2 ∧ x'.N = P ∧ x'.m ≤ 3 ∧ Fr (fun b => w.heap.size ≤ b) w wx ∧ wx.cell? ⟨wr.heap.size, 0, none⟩ = some (.int .i64 kd)))
            case first =>
              have hc1 := (HCC.out WZ (Fr.refl _ _)).2.1
              have hc3 := (HCC.out WZ (Fr.refl _ _)).2.2
              by_cases e2 : kd = 2
              · have b2 : (kd == 2) = true := by simp [e2]
                obtain ⟨pg, hpg⟩ : ∃ pg, pg = pageOf bl := ⟨_, rfl⟩
                obtain ⟨E, hE⟩ : ∃ E, E = x.inE sl := ⟨_, rfl⟩
                have hpl : pg.length = 512 := by rw [hpg]; exact pageOf_len _
                have hpa : ∀ W, Fr (fun b => w.heap.size ≤ b) w W → Calls Tryz.prog 20 #[.slice As ns cs] W fun e w' => e = .returned (av pg) ∧ Fr (fun _ => False) W w' := fun W f => by
                  rw [hpg]
                  exact page_any (rd_low hrdw f) (by omega)
                have HPA := Lib.hid hpa
                have hbe : (E != E) = false := by simp
                have HPG := Lib.hid (And.intro hpl (And.intro hpg hE))
                have hSZ : WZ.drew.cell? ⟨wr.heap.size, 1, none⟩ = some (.int .i64 sl) ∧ WZ.drew.cell? ⟨wr.heap.size, 3, none⟩ = some (.slice As ns cs) := ⟨hc1, hc3⟩
                clear e2 hpl hpg hE hpa hc1 hc3 hc0
                go_wp2_with fail
                (try simp only [Act.put, List.setIfInBounds_toArray, List.set_cons_zero, List.set_cons_succ])
                refine wp_region_held_drew (S := fun w' => w'.cell? ⟨wr.heap.size, 1, none⟩ = some (.int .i64 sl) ∧ w'.cell? ⟨wr.heap.size, 3, none⟩ = some (.slice As ns cs)) (by kernel_rfl) hSZ (fun hS0 => ?_)
                refine anyH_take 0 97 (.pointer (some ⟨p, 0, none⟩)) rfl rfl (by kernel_rfl) (by kernel_rfl) (by kernel_rfl) (fun _ _ _ h => h) (.inl ⟨by rfl, fun w'' hS => by go_simp⟩) hS0 ?_
                (simp only [List.setIfInBounds_toArray, List.set_cons_zero, List.set_cons_succ])
                refine anyH_take 1 98 (.pointer (some ⟨wr.heap.size, 1, none⟩)) rfl rfl (by kernel_rfl) (by kernel_rfl) (by kernel_rfl) (fun _ _ _ h => h) (.inl ⟨by rfl, fun w'' hS => by go_simp⟩) hS0 ?_
                (simp only [List.setIfInBounds_toArray, List.set_cons_zero, List.set_cons_succ])
                refine anyH_take 2 99 (.int .i64 sl) rfl rfl (by kernel_rfl) (by kernel_rfl) (by kernel_rfl) (fun _ _ _ h => h) (.inl ⟨by rfl, fun w'' hS => by have q0 := hS.1; go_simp⟩) hS0 ?_
                (simp only [List.setIfInBounds_toArray, List.set_cons_zero, List.set_cons_succ])
                refine anyH_take 3 100 (.pointer (some ⟨wr.heap.size, 3, none⟩)) rfl rfl (by kernel_rfl) (by kernel_rfl) (by kernel_rfl) (fun _ _ _ h => h) (.inl ⟨by rfl, fun w'' hS => by go_simp⟩) hS0 ?_
                (simp only [List.setIfInBounds_toArray, List.set_cons_zero, List.set_cons_succ])
                refine anyH_take 4 101 (.slice As ns cs) rfl rfl (by kernel_rfl) (by kernel_rfl) (by kernel_rfl) (fun _ _ _ h => h) (.inl ⟨by rfl, fun w'' hS => by have q0 := hS.2; go_simp⟩) hS0 ?_
                (simp only [List.setIfInBounds_toArray, List.set_cons_zero, List.set_cons_succ])
                refine anyH_take 7 104 (.pointer (some ⟨q, 0, none⟩)) rfl rfl (by kernel_rfl) (by kernel_rfl) (by kernel_rfl) (fun _ _ _ h => h) (.inl ⟨by rfl, fun w'' hS => by go_simp⟩) hS0 ?_
                (simp only [List.setIfInBounds_toArray, List.set_cons_zero, List.set_cons_succ])
                refine anyH_take 8 105 (.pointer (some ⟨wr.heap.size, 1, none⟩)) rfl rfl (by kernel_rfl) (by kernel_rfl) (by kernel_rfl) (fun _ _ _ h => h) (.inl ⟨by rfl, fun w'' hS => by go_simp⟩) hS0 ?_
                (simp only [List.setIfInBounds_toArray, List.set_cons_zero, List.set_cons_succ])
                refine anyH_take 9 106 (.int .i64 sl) rfl rfl (by kernel_rfl) (by kernel_rfl) (by kernel_rfl) (fun _ _ _ h => h) (.inl ⟨by rfl, fun w'' hS => by have q0 := hS.1; go_simp⟩) hS0 ?_
                (simp only [List.setIfInBounds_toArray, List.set_cons_zero, List.set_cons_succ])
                refine anyH_take 10 107 (.pointer (some ⟨wr.heap.size, 3, none⟩)) rfl rfl (by kernel_rfl) (by kernel_rfl) (by kernel_rfl) (fun _ _ _ h => h) (.inl ⟨by rfl, fun w'' hS => by go_simp⟩) hS0 ?_
                (simp only [List.setIfInBounds_toArray, List.set_cons_zero, List.set_cons_succ])
                refine anyH_take 11 108 (.slice As ns cs) rfl rfl (by kernel_rfl) (by kernel_rfl) (by kernel_rfl) (fun _ _ _ h => h) (.inl ⟨by rfl, fun w'' hS => by have q0 := hS.2; go_simp⟩) hS0 ?_
                (simp only [List.setIfInBounds_toArray, List.set_cons_zero, List.set_cons_succ])
                refine anyH_enter 5 102 (f := 20) (args := #[.slice As ns cs]) (by kernel_rfl) rfl rfl (by rfl) (by go_simp) ?_
                refine (HPA.out WZ.drew HZ.out.2.2.2.2.1.drew).mono ?_
                rintro en wa ⟨rfl, fa⟩
                have fa' : Fr (fun _ => False) WZ wa := ((Fr.refl (fun _ => False) WZ).drew).trans fa (fun _ _ q => q)
                have hSa := (HCC.out wa (fa'.mono (fun _ _ q => q.elim))).2
                refine ⟨_, rfl, hSa, ?_⟩
                (simp only [List.setIfInBounds_toArray, List.set_cons_zero, List.set_cons_succ])
                obtain ⟨Sa, hA, hto⟩ := (HZ.out.1.new fa').one
                have HPU := Lib.hid (pa_putZ hA HZ.out.2.1.gx sl HPG.out.1)
                rw [← HPG.out.2.2] at HPU
                refine anyH_enter 6 103 (f := 19) (args := #[.pointer (some ⟨p, 0, none⟩), .int .i64 sl, av pg]) (by kernel_rfl) rfl rfl (by rfl) (by go_simp) ?_
                refine HPU.out.mono ?_
                rintro en wb ⟨rfl, hT⟩
                obtain ⟨hPb, fb⟩ := hto wb _ hT
                have fb' : Fr (fun b => w.heap.size ≤ b ∧ ¬ X b) WZ wb := (fa'.mono (fun _ _ q => q.elim)).trans fb (fun _ _ q => q)
                have hSb := (HCC.out wb fb').2
                refine ⟨_, rfl, hSb, ?_⟩
                (simp only [List.setIfInBounds_toArray, List.set_cons_zero, List.set_cons_succ])
                refine anyH_enter 12 109 (f := 20) (args := #[.slice As ns cs]) (by kernel_rfl) rfl rfl (by rfl) (by go_simp) ?_
                refine (HPA.out wb (HLO.out wb fb')).mono ?_
                rintro en wc1 ⟨rfl, fc⟩
                have fc' : Fr (fun b => w.heap.size ≤ b ∧ ¬ X b) WZ wc1 := fb'.trans fc (fun _ _ q => q.elim)
                have hSc := (HCC.out wc1 fc').2
                refine ⟨_, rfl, hSc, ?_⟩
                (simp only [List.setIfInBounds_toArray, List.set_cons_zero, List.set_cons_succ])
                obtain ⟨Sb, hA2, hto2⟩ := (hPb.new fc).two
                have HPU2 := Lib.hid (pa_putZ hA2 HZ.out.2.1.gy sl HPG.out.1)
                rw [← HZ.out.2.1.tw.inE sl, ← HPG.out.2.2] at HPU2
                refine anyH_enter 13 110 (f := 19) (args := #[.pointer (some ⟨q, 0, none⟩), .int .i64 sl, av pg]) (by kernel_rfl) rfl rfl (by rfl) (by go_simp) ?_
                refine HPU2.out.mono ?_
                rintro en wd ⟨rfl, hT2⟩
                obtain ⟨hPd, fd⟩ := hto2 wd _ hT2
                have fd' : Fr (fun b => w.heap.size ≤ b ∧ ¬ X b) WZ wd := fc'.trans fd (fun _ _ q => q)
                have hSd := (HCC.out wd fd').2
                refine ⟨_, rfl, hSd, ?_⟩
                (simp only [List.setIfInBounds_toArray, List.set_cons_zero, List.set_cons_succ])
                refine anyH_take 14 111 (.bool false) rfl rfl (by kernel_rfl) (by kernel_rfl) (by kernel_rfl) (fun _ _ _ h => h) (.inl ⟨by rfl, fun w'' hS => by go_simp⟩) hSd ?_
                (simp only [List.setIfInBounds_toArray, List.set_cons_zero, List.set_cons_succ])
                refine wpAnyH_done (by kernel_rfl) ?_ _
                have HD := Lib.hid (And.intro hPd fd')
                clear hS0 hSZ fa fa' hSa hA hto hT hPb fb fb' hSb fc fc' hSc hA2 hto2 hT2 hPd fd fd' hSd HPU HPU2
                go_wp2_with fail
                go_meet
                exact ⟨x.putZ sl pg, y.putZ sl pg, Lib.hid ⟨HD.out.1, HZ.out.2.1.put sl HPG.out.1, (putZ_N x sl pg).trans HZ.out.2.2.1, by have := putZ_m x sl pg; have := HZ.out.2.2.2.1; omega, HLO.out wd HD.out.2, (HCC.out wd HD.out.2).1⟩⟩
              have b2 : (kd == 2) = false := by simp [e2]
              by_cases e4 : kd = 4
              · have b4 : (kd == 4) = true := by simp [e4]
                obtain ⟨Sa, hA, hto⟩ := HZ.out.1.one
                have HG := Lib.hid (pa_abort hA HZ.out.2.1.gx.ok)
                have HTO := Lib.hid hto
                clear hA hto e2 e4 hc1 hc3
                go_wp2_with fail
                refine HG.out.mono ?_
                rintro e wa ⟨rfl, hT⟩
                obtain ⟨hPa, fa⟩ := HTO.out wa _ hT
                obtain ⟨Sb, hA2, hto2⟩ := hPa.two
                have HG2 := Lib.hid (pa_abort hA2 HZ.out.2.1.gy.ok)
                have HA2 := Lib.hid (And.intro hto2 fa)
                clear hT hPa fa hA2 hto2 HG
                go_wp2_with fail
                refine HG2.out.mono ?_
                rintro e wb ⟨rfl, hT⟩
                obtain ⟨hPb, fb⟩ := HA2.out.1 wb _ hT
                have HD := Lib.hid (And.intro hPb (HA2.out.2.trans fb (fun _ _ q => q)))
                clear hT hPb fb HG2
                go_wp2_with fail
                go_meet
                exact ⟨x.aborted, y.aborted, Lib.hid ⟨HD.out.1, HZ.out.2.1.abort, HZ.out.2.2.1, by rw [aborted_m]; omega, HLO.out wb HD.out.2, (HCC.out wb HD.out.2).1⟩⟩
              have b4 : (kd == 4) = false := by simp [e4]
              clear e2 e4 hc1 hc3
              go_wp2_with fail
              go_meet
              exact ⟨x, y, Lib.hid ⟨HZ.out.1, HZ.out.2.1, HZ.out.2.2.1, by have := HZ.out.2.2.2.1; omega, HZ.out.2.2.2.2.1, hc0⟩⟩
            case rest =>
              obtain ⟨x', y', HR⟩ := hcut
              have hc0 := HR.out.2.2.2.2.2
              by_cases e3 : kd = 3
              · have b3 : (kd == 3) = true := by simp [e3]
                have HP := Lib.hid (And.intro HR.out.1 HR.out.2.2.2.2.1)
                clear e3
                obtain ⟨Sa, hA, hto⟩ := HP.out.1.one
                have hfx := comZ_few HR.out.2.1.gx (by simp only [maxC]; omega) HR.out.2.2.2.1 (by rw [HR.out.2.1.z1]; exact HGZ.out.1)
                have HG := Lib.hid (pa_comZ hA HR.out.2.1.gx (by simp only [maxC]; omega))
                rw [hfx.1] at HG
                have HTO := Lib.hid (And.intro hto hfx)
                clear hA hto hfx
                go_wp2_with fail
                refine HG.out.mono ?_
                rintro e wa ⟨rfl, hT⟩
                obtain ⟨hPa, fa⟩ := HTO.out.1 wa _ hT
                obtain ⟨Sb, hA2, hto2⟩ := hPa.two
                have hfy := comZ_few HR.out.2.1.gy (by simp only [maxC]; omega) (by rw [← HR.out.2.1.tw.m]; exact HR.out.2.2.2.1) (by rw [HR.out.2.1.z2]; exact HGZ.out.2)
                have HG2 := Lib.hid (pa_comZ hA2 HR.out.2.1.gy (by simp only [maxC]; omega))
                rw [hfy.1] at HG2
                have HA2 := Lib.hid (And.intro hto2 fa)
                clear hT hPa fa hA2 hto2 HG hfy
                go_wp2_with fail
                refine HG2.out.mono ?_
                rintro e wb ⟨rfl, hT⟩
                obtain ⟨hPb, fb⟩ := HA2.out.1 wb _ hT
                have HD := Lib.hid (And.intro hPb (HA2.out.2.trans fb (fun _ _ q => q)))
                clear hT hPb fb HG2
                go_wp2_with fail
                refine ⟨⟨k + 1, by norm_cast, by omega, Lib.hid ⟨x'.comZ, y'.comZ, HD.out.1.mark (X' := fun _ => False) (Fr.refl _ _) (fun b hb => hb.elim), by have := HR.out.2.1.com (by simp only [maxC]; omega) HR.out.2.2.2.1 HGZ.out.1 HGZ.out.2; rwa [show 3 + k + 1 = 3 + (k + 1) by omega] at this, HTO.out.2.2.1.trans HR.out.2.2.1, by unfold PX.m; rw [HTO.out.2.2.2.2.1, openF_nil]; exact Nat.zero_le _⟩, Lib.hid (HP.out.2.trans HD.out.2 (fun b _ q => q.1))⟩, ?_⟩
                simp only [intOf]
                omega
              have b3 : (kd == 3) = false := by simp [e3]
              obtain ⟨Sa, hA⟩ := HR.out.1.sub_one
              have HC1 := Lib.hid (pa_changed hA HR.out.2.1.gx.ok)
              clear e3 hA
              go_wp2_with fail
              refine HC1.out.mono ?_
              rintro e d1 ⟨u1, rfl, hu1, k1⟩
              obtain ⟨A9, c9, hu9e, _, _⟩ := own_slice hu1
              obtain ⟨n9, hn9⟩ : ∃ n9 : Nat, n9 = x'.m := ⟨_, rfl⟩
              have hu9f : u1 = .slice A9 n9 c9 := by rw [hu9e, hn9]; rfl
              subst hu9f
              have HP := Lib.hid (And.intro (HR.out.1.new k1) (HR.out.2.2.2.2.1.trans k1 (fun _ _ q => q.elim)))
              clear hu1 hu9e k1 HC1 hc0
              by_cases e9 : n9 = 3
              · have b9 : ((n9 : Int) == 3) = true := by rw [e9]; rfl
                clear hn9 e9
                obtain ⟨Sa, hA, hto⟩ := HP.out.1.one
                have hfx := comZ_few HR.out.2.1.gx (by simp only [maxC]; omega) HR.out.2.2.2.1 (by rw [HR.out.2.1.z1]; exact HGZ.out.1)
                have HG := Lib.hid (pa_comZ hA HR.out.2.1.gx (by simp only [maxC]; omega))
                rw [hfx.1] at HG
                have HTO := Lib.hid (And.intro hto hfx)
                clear hA hto hfx
                go_wp2_with fail
                refine HG.out.mono ?_
                rintro e wa ⟨rfl, hT⟩
                obtain ⟨hPa, fa⟩ := HTO.out.1 wa _ hT
                obtain ⟨Sb, hA2, hto2⟩ := hPa.two
                have hfy := comZ_few HR.out.2.1.gy (by simp only [maxC]; omega) (by rw [← HR.out.2.1.tw.m]; exact HR.out.2.2.2.1) (by rw [HR.out.2.1.z2]; exact HGZ.out.2)
                have HG2 := Lib.hid (pa_comZ hA2 HR.out.2.1.gy (by simp only [maxC]; omega))
                rw [hfy.1] at HG2
                have HA2 := Lib.hid (And.intro hto2 fa)
                clear hT hPa fa hA2 hto2 HG hfy
                go_wp2_with fail
                refine HG2.out.mono ?_
                rintro e wb ⟨rfl, hT⟩
                obtain ⟨hPb, fb⟩ := HA2.out.1 wb _ hT
                have HD := Lib.hid (And.intro hPb (HA2.out.2.trans fb (fun _ _ q => q)))
                clear hT hPb fb HG2
                go_wp2_with fail
                refine ⟨⟨k + 1, by norm_cast, by omega, Lib.hid ⟨x'.comZ, y'.comZ, HD.out.1.mark (X' := fun _ => False) (Fr.refl _ _) (fun b hb => hb.elim), by have := HR.out.2.1.com (by simp only [maxC]; omega) HR.out.2.2.2.1 HGZ.out.1 HGZ.out.2; rwa [show 3 + k + 1 = 3 + (k + 1) by omega] at this, HTO.out.2.2.1.trans HR.out.2.2.1, by unfold PX.m; rw [HTO.out.2.2.2.2.1, openF_nil]; exact Nat.zero_le _⟩, Lib.hid (HP.out.2.trans HD.out.2 (fun b _ q => q.1))⟩, ?_⟩
                simp only [intOf]
                omega
              · have b9 : ((n9 : Int) == 3) = false := by simp; omega
                have HM := Lib.hid (show x'.m ≤ 2 by have := HR.out.2.2.2.1; omega)
                clear hn9 e9
                go_wp2_with fail
                refine ⟨⟨k + 1, by norm_cast, by omega, Lib.hid ⟨x', y', HP.out.1.mark (X' := fun _ => False) (Fr.refl _ _) (fun b hb => hb.elim), HR.out.2.1.mono (by omega), HR.out.2.2.1, HM.out⟩, Lib.hid HP.out.2⟩, ?_⟩
                simp only [intOf]
                omega
          · obtain rfl : k = m := by omega
            clear hlt
            obtain ⟨x, y, hPP, hLg, hN, _⟩ := HS.out
            obtain ⟨Sa, hA, hto⟩ := hPP.one
            have HG := Lib.hid (pa_abort hA hLg.gx.ok)
            have HTO := Lib.hid (And.intro hto (And.intro hLg hN))
            clear hA hto hPP hLg hN HS
            go_wp2_with fail
            refine HG.out.mono ?_
            rintro e wa ⟨rfl, hT⟩
            obtain ⟨hPa, fa⟩ := HTO.out.1 wa _ hT
            obtain ⟨Sb, hA2, hto2⟩ := hPa.two
            have HG2 := Lib.hid (pa_abort hA2 HTO.out.2.1.gy.ok)
            have HA2 := Lib.hid (And.intro hto2 fa)
            clear hT hPa fa hA2 hto2 HG
            go_wp2_with fail
            refine HG2.out.mono ?_
            rintro e wb ⟨rfl, hT⟩
            obtain ⟨hPb, fb⟩ := HA2.out.1 wb _ hT
            have HD := Lib.hid (And.intro hPb (HF.out.trans (HA2.out.2.trans fb (fun _ _ q => q)) (fun _ _ q => q.1)))
            clear hT hPb fb HG2 HF
            go_wp2_with fail
            go_loopw [17] (fun i wq => ∃ j : Nat, i = .int .i64 j ∧ j ≤ P ∧ Hid (∃ x y, PP wq w.heap.size (fun _ => False) p g q g' x y ∧ Logs x y (3 + k) Z1 Z2 ∧ x.N = P ∧ x.f1 = (fun _ => [])) ∧ Hid (Fr (fun b => w.heap.size ≤ b) w wq)) (fun i _ => P - (intOf i).toNat)
            case atStart => exact ⟨0, rfl, Nat.zero_le _, Lib.hid ⟨x.aborted, y.aborted, HD.out.1, HTO.out.2.1.abort, HTO.out.2.2, rfl⟩, Lib.hid HD.out.2⟩
            case round =>
              clear HTO HD HA2
              obtain ⟨j, rfl, hj, HS, HF⟩ := hrel
              by_cases hlt : j < P
              · obtain ⟨x, y, hPP, hLg, hN, hf⟩ := HS.out
                obtain ⟨pg, hpg⟩ : ∃ pg, pg = x.getV (j : Int) := ⟨_, rfl⟩
                have hpl : pg.length = 512 := by rw [hpg]; exact hLg.gx.getV_len _
                obtain ⟨Sa, hA, hto⟩ := hPP.one
                have HG := Lib.hid (pa_getZ hA hLg.gx (j : Int))
                rw [← hpg, (getV_in hN hlt).2] at HG
                have HTO := Lib.hid (And.intro hto (And.intro hLg (And.intro hN (And.intro hf hpg))))
                have HPL := Lib.hid hpl
                have hjP : (j : Int) < (P : Int) := by omega
                clear hA hto hPP hLg hN hf hpg hpl HS
                go_wp2_with fail
                refine HG.out.mono ?_
                rintro e wa ⟨rfl, hT⟩
                obtain ⟨hPa, fa⟩ := HTO.out.1 wa _ hT
                obtain ⟨W1, hW1, hb1, hr1, f1, th1⟩ := put_arr wa 50 Tryz.zeroCells50 512 zeroPgCells pg HPL.out
                have hPm := hPa.mark (X' := fun b => b = wa.heap.size) f1 (fun b hb => by rw [hb]; exact ⟨Nat.le_refl _, hb1.lt⟩)
                obtain ⟨Sb, hA2, hto2⟩ := hPm.two
                have HG2 := Lib.hid (pa_getZ hA2 HTO.out.2.1.gy (j : Int))
                rw [← HTO.out.2.1.tw.getV, ← HTO.out.2.1.tw.inE, ← HTO.out.2.2.2.2, (getV_in HTO.out.2.2.1 hlt).2] at HG2
                have HW1 := Lib.hid (And.intro hW1 (And.intro th1 HPL.out))
                have HA2 := Lib.hid (And.intro hto2 (And.intro hb1 ((HF.out.trans fa (fun _ _ q => q.1)).trans f1 (fun _ _ q => q.elim))))
                clear hT hPa fa hW1 hb1 hr1 f1 th1 hPm hA2 hto2 HG
                go_wp2_with (refine wpList_store_mid rfl 50 _ _ rfl wa.heap.size 0 (cellsB pg).toArray rfl rfl HW1.out.2.1 (by rw [infoPgS]; simp [cellsB_len, HW1.out.2.2]) (all_oneCell_toArray (cellsB_one _)) ?_; rw [← HW1.out.1])
                refine HG2.out.mono ?_
                rintro e wb ⟨rfl, hT⟩
                obtain ⟨hPb, fb⟩ := HA2.out.1 wb _ hT
                have hb1 := HA2.out.2.1.keep fb (fun q => q.2 rfl)
                obtain ⟨W2, hW2, hb2, hr2, f2, th2⟩ := put_arr wb 50 Tryz.zeroCells50 512 zeroPgCells pg HPL.out
                have hb1' := hb1.keep f2 (fun q => q)
                have hr1 : W2.rangeAt wa.heap.size 0 (cellsB pg) := fun i u hi => by rw [hb1'.cell, Nat.zero_add]; simpa using hi
                have hPm := hPb.mark (X' := fun _ => False) f2 (fun b hb => hb.elim)
                have HW2 := Lib.hid (And.intro hW2 (And.intro th2 HPL.out))
                have HE := Lib.hid (And.intro hPm (And.intro ((HA2.out.2.2.trans fb (fun _ _ q => q.1)).trans f2 (fun _ _ q => q.elim)) (And.intro hr1 hr2)))
                have hcmp : ∀ W, (binOp .neq 50 (av pg) (av pg)).run Tryz.prog W = .ok (.bool false) W := fun W => by
                  rw [pg_neq pg pg HPL.out HPL.out]
                  simp
                clear hT hPb fb hb1 hW2 hb2 hr2 f2 th2 hb1' hr1 hPm HG2
                go_wp2_with (first
                  | (refine wpList_store_mid rfl 50 _ _ rfl wb.heap.size 0 (cellsB pg).toArray rfl rfl HW2.out.2.1 (by rw [infoPgS]; simp [cellsB_len, HW2.out.2.2]) (all_oneCell_toArray (cellsB_one _)) ?_; rw [← HW2.out.1])
                  | (refine wpList_load_mid rfl 50 _ rfl (wa.heap.size) 0 rfl (cellsB pg) _ HE.out.2.2.1 Tryz.underlying50 rfl (by rw [infoPgS, cellsB_len, HPL.out]) ?_)
                  | (refine wpList_load_want (by rfl) 50 _ rfl (wa.heap.size) 0 rfl (cellsB pg) _ HE.out.2.2.1 Tryz.underlying50 rfl (by rw [infoPgS, cellsB_len, HPL.out]) ?_)
                  | (refine wpList_load_mid rfl 50 _ rfl (wb.heap.size) 0 rfl (cellsB pg) _ HE.out.2.2.2 Tryz.underlying50 rfl (by rw [infoPgS, cellsB_len, HPL.out]) ?_)
                  | (refine wpList_load_want (by rfl) 50 _ rfl (wb.heap.size) 0 rfl (cellsB pg) _ HE.out.2.2.2 Tryz.underlying50 rfl (by rw [infoPgS, cellsB_len, HPL.out]) ?_))
                refine ⟨⟨j + 1, by norm_cast, by omega, Lib.hid ⟨x.getZ j, y.getZ j, HE.out.1, HTO.out.2.1.get j, (getZ_f x j).1.trans HTO.out.2.2.1, (getZ_f x j).2.trans HTO.out.2.2.2.1⟩, Lib.hid HE.out.2.1⟩, ?_⟩
                simp only [intOf]
                omega
              · obtain rfl : j = P := by omega
                clear hlt
                obtain ⟨x, y, ⟨Sx, Sy, hA, hB, hd, _⟩, hLg, hN, hf⟩ := HS.out
                have hK : 3 + k + 2 < maxC := by simp only [maxC]; omega
                have HO1 := Lib.hid (open_anew hLg.z1 hA hLg.gx hK)
                have HTO := Lib.hid (And.intro hA (And.intro hB (And.intro hd (And.intro hLg (And.intro hK (hLg.rd hK hN hf))))))
                clear hA hB hd hLg hN hf hK HS
                go_wp2_with fail
                refine HO1.out.mono ?_
                rintro e w4 ⟨r, O, O', rfl, hu, hv, hdd, f4⟩
                have hB' := HTO.out.2.1.keep f4 (fun b q1 q2 => HTO.out.2.2.1 b q2 q1) HTO.out.1.no_frame
                have HO2 := Lib.hid (open_both HTO.out.2.2.2.1.z2 (fun b q => q.elim (fun q => .inl (HTO.out.2.2.1 b q)) (fun q => .inl (fun q2 => by have := (HTO.out.2.1.sub b q2).2; omega))) hu hv hdd hB' HTO.out.2.2.2.1.gy HTO.out.2.2.2.2.1)
                have HF4 := Lib.hid (HF.out.trans f4 (fun b _ q => (HTO.out.1.sub b q).1))
                clear hu hv hdd f4 hB' HO1 HF
                go_wp2_with fail
                refine HO2.out.mono ?_
                rintro e w5 ⟨r2, rfl, hTri, f5⟩
                obtain ⟨F, hF⟩ : ∃ F, F = x.C := ⟨_, rfl⟩
                have HT := Lib.hid (And.intro hTri (And.intro (HF4.out.trans f5 (fun b _ q => (HTO.out.2.1.sub b q).1)) HTO.out.2.2.2.2.2))
                rw [← hF] at HT
                clear hTri f5 HO2 hF HTO HF4
                go_wp2_with fail
                go_loopw [26] (fun i wq => ∃ n : Nat, i = .int .i64 n ∧ n ≤ j ∧ Hid (∃ x1 x2 x3, Tri wq w.heap.size (fun _ => False) r g r2 g' p g x1 x2 x3 ∧ Rd3 x1 j F ∧ Rd3 x2 j F ∧ Rd3 x3 j F) ∧ Hid (Fr (fun b => w.heap.size ≤ b) w wq)) (fun i _ => j - (intOf i).toNat)
                case atStart => exact ⟨0, rfl, Nat.zero_le _, Lib.hid ⟨_, _, _, HT.out.1, HT.out.2.2.1, HT.out.2.2.2.2.1, HT.out.2.2.2.1⟩, Lib.hid HT.out.2.1⟩
                case round =>
                  have HFL := Lib.hid HT.out.2.2.2.2.2
                  clear HT
                  obtain ⟨n, rfl, hn, HS, HF⟩ := hrel
                  by_cases hlt : n < j
                  · obtain ⟨x1, x2, x3, hTri, R1, R2, R3⟩ := HS.out
                    obtain ⟨pg, hpg⟩ : ∃ pg, pg = F n := ⟨_, rfl⟩
                    have HPL := Lib.hid (show pg.length = 512 by rw [hpg]; exact HFL.out n hlt)
                    have HG := Lib.hid (tri_get hTri R1 hlt)
                    rw [← hpg] at HG
                    have HRR := Lib.hid (And.intro R1 (And.intro R2 (And.intro R3 hpg)))
                    have hjP : (n : Int) < (j : Int) := by omega
                    clear hTri R1 R2 R3 hpg HS
                    go_wp2_with fail
                    refine HG.out.mono ?_
                    rintro e wa ⟨rfl, hTa, fa⟩
                    obtain ⟨W1, hW1, hb1, hr1, f1, th1⟩ := put_arr wa 50 Tryz.zeroCells50 512 zeroPgCells pg HPL.out
                    have HG2 := Lib.hid (tri_get (hTa.mark (X' := fun b => b = wa.heap.size) f1 (fun b hb => .inr (by rw [hb]; exact ⟨Nat.le_refl _, hb1.lt⟩))).rot HRR.out.2.1 hlt)
                    rw [← HRR.out.2.2.2] at HG2
                    have HW1 := Lib.hid (And.intro hW1 (And.intro th1 HPL.out))
                    have HA2 := Lib.hid (And.intro hb1 ((HF.out.trans fa (fun _ _ q => q.1)).trans f1 (fun _ _ q => q.elim)))
                    clear hTa fa hW1 hb1 hr1 f1 th1 HG
                    go_wp2_with (refine wpList_store_mid rfl 50 _ _ rfl wa.heap.size 0 (cellsB pg).toArray rfl rfl HW1.out.2.1 (by rw [infoPgS]; simp [cellsB_len, HW1.out.2.2]) (all_oneCell_toArray (cellsB_one _)) ?_; rw [← HW1.out.1])
                    refine HG2.out.mono ?_
                    rintro e wb ⟨rfl, hTb, fb⟩
                    have hb1 := HA2.out.1.keep fb (fun q => q.2 rfl)
                    obtain ⟨W2, hW2, hb2, hr2, f2, th2⟩ := put_arr wb 50 Tryz.zeroCells50 512 zeroPgCells pg HPL.out
                    have HG3 := Lib.hid (tri_get (hTb.mark (X' := fun b => b = wa.heap.size ∨ b = wb.heap.size) f2 (fun b hb => hb.elim .inl (fun hb => .inr (by rw [hb]; exact ⟨Nat.le_refl _, hb2.lt⟩)))).rot HRR.out.2.2.1 hlt)
                    rw [← HRR.out.2.2.2] at HG3
                    have HW2 := Lib.hid (And.intro hW2 (And.intro th2 HPL.out))
                    have HA3 := Lib.hid (And.intro (hb1.keep f2 (fun q => q)) (And.intro hb2 ((HA2.out.2.trans fb (fun _ _ q => q.1)).trans f2 (fun _ _ q => q.elim))))
                    clear hTb fb hb1 hW2 hb2 hr2 f2 th2 HG2 HA2
                    go_wp2_with (refine wpList_store_mid rfl 50 _ _ rfl wb.heap.size 0 (cellsB pg).toArray rfl rfl HW2.out.2.1 (by rw [infoPgS]; simp [cellsB_len, HW2.out.2.2]) (all_oneCell_toArray (cellsB_one _)) ?_; rw [← HW2.out.1])
                    refine HG3.out.mono ?_
                    rintro e wc ⟨rfl, hTc, fc⟩
                    have hb1 := HA3.out.1.keep fc (fun q => q.2 (.inl rfl))
                    have hb2 := HA3.out.2.1.keep fc (fun q => q.2 (.inr rfl))
                    obtain ⟨W3, hW3, hb3, hr3, f3, th3⟩ := put_arr wc 50 Tryz.zeroCells50 512 zeroPgCells pg HPL.out
                    have hb1' := hb1.keep f3 (fun q => q)
                    have hb2' := hb2.keep f3 (fun q => q)
                    have hr1 : W3.rangeAt wa.heap.size 0 (cellsB pg) := fun i u hi => by rw [hb1'.cell, Nat.zero_add]; simpa using hi
                    have hr2 : W3.rangeAt wb.heap.size 0 (cellsB pg) := fun i u hi => by rw [hb2'.cell, Nat.zero_add]; simpa using hi
                    have HW3 := Lib.hid (And.intro hW3 (And.intro th3 HPL.out))
                    have HE := Lib.hid (And.intro (hTc.mark (X' := fun _ => False) f3 (fun b hb => hb.elim)).rot (And.intro ((HA3.out.2.2.trans fc (fun _ _ q => q.1)).trans f3 (fun _ _ q => q.elim)) (And.intro hr1 (And.intro hr2 hr3))))
                    have hcmp : ∀ W, (binOp .neq 50 (av pg) (av pg)).run Tryz.prog W = .ok (.bool false) W := fun W => by
                      rw [pg_neq pg pg HPL.out HPL.out]
                      simp
                    clear hTc fc hb1 hb2 hb1' hb2' hW3 hb3 hr1 hr2 hr3 f3 th3 HG3 HA3
                    go_wp2_with (first
                      | (refine wpList_store_mid rfl 50 _ _ rfl wc.heap.size 0 (cellsB pg).toArray rfl rfl HW3.out.2.1 (by rw [infoPgS]; simp [cellsB_len, HW3.out.2.2]) (all_oneCell_toArray (cellsB_one _)) ?_; rw [← HW3.out.1])
                      | (refine wpList_load_mid rfl 50 _ rfl (wa.heap.size) 0 rfl (cellsB pg) _ HE.out.2.2.1 Tryz.underlying50 rfl (by rw [infoPgS, cellsB_len, HPL.out]) ?_)
                      | (refine wpList_load_want (by rfl) 50 _ rfl (wa.heap.size) 0 rfl (cellsB pg) _ HE.out.2.2.1 Tryz.underlying50 rfl (by rw [infoPgS, cellsB_len, HPL.out]) ?_)
                      | (refine wpList_load_mid rfl 50 _ rfl (wb.heap.size) 0 rfl (cellsB pg) _ HE.out.2.2.2.1 Tryz.underlying50 rfl (by rw [infoPgS, cellsB_len, HPL.out]) ?_)
                      | (refine wpList_load_want (by rfl) 50 _ rfl (wb.heap.size) 0 rfl (cellsB pg) _ HE.out.2.2.2.1 Tryz.underlying50 rfl (by rw [infoPgS, cellsB_len, HPL.out]) ?_)
                      | (refine wpList_load_mid rfl 50 _ rfl (wc.heap.size) 0 rfl (cellsB pg) _ HE.out.2.2.2.2 Tryz.underlying50 rfl (by rw [infoPgS, cellsB_len, HPL.out]) ?_)
                      | (refine wpList_load_want (by rfl) 50 _ rfl (wc.heap.size) 0 rfl (cellsB pg) _ HE.out.2.2.2.2 Tryz.underlying50 rfl (by rw [infoPgS, cellsB_len, HPL.out]) ?_))
                    refine ⟨⟨n + 1, by norm_cast, by omega, Lib.hid ⟨x1.asked n, x2.asked n, x3.asked n, HE.out.1, HRR.out.1.asked hlt, HRR.out.2.1.asked hlt, HRR.out.2.2.1.asked hlt⟩, Lib.hid HE.out.2.1⟩, ?_⟩
                    simp only [intOf]
                    omega
                  · obtain rfl : n = j := by omega
                    clear hlt
                    go_wp2_with fail
                    refine (known_any _).mono ?_
                    rintro e w9 ⟨rfl, f9⟩
                    have H9 := Lib.hid f9
                    clear f9
                    go_wp2_with fail
                    go_ret
                    exact ⟨rfl, (HF.out.trans H9.out (fun _ _ q => q.elim)).mono (fun b hb q => by omega)⟩
end Go.Proofs.YtpdfpnpkbknhnaaGreat
