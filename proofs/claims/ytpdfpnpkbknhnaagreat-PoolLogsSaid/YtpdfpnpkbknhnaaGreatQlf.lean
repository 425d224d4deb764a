/- PoolFrames. -/
import Derived.Test.YtpdfpnpkbknhnaaGreatQtw
import Derived.Deep.CutBlock
namespace Go.Proofs.YtpdfpnpkbknhnaaGreat
open Go.RowKit

theorem rd_low {w W : World} {A : Option Addr} {n : Nat} {l : List UInt8} (h : Rd w A n l) (f : Fr (fun b => w.heap.size ≤ b) w W) : Rd W A n l := by
  rcases Nat.eq_zero_or_pos n with h0 | h0
  · exact ⟨h.len, fun q => absurd q (by omega)⟩
  · obtain ⟨ad', e', hlt⟩ := h.lt h0
    refine h.keep f (fun ad e q => ?_)
    rw [e'] at e
    injection e with e
    rw [e] at hlt
    omega
set_option maxRecDepth 100000 in
set_option maxHeartbeats 16000000 in
theorem frames_any {w : World} {v : Value} {xs : List ActR} (pages z one two : Int) (hl : ListV w v xs) : Calls Tryz.prog 4 #[.int .i64 pages, .int .i64 z, .int .i64 one, .int .i64 two, v] w fun e w' => e = .returned (.bool true) ∧ Fr (fun _ => False) w w' := by
  have HFW := Lib.hid (few_any hl 50)
  obtain ⟨A, cap, rfl, hxl, hx2⟩ := hl
  obtain ⟨m, hm⟩ : ∃ m, m = xs.length := ⟨_, rfl⟩
  have HFT := Lib.hid (lfits_any w pages z)
  obtain ⟨tf, htf⟩ : ∃ tf, tf = fitsB pages z := ⟨_, rfl⟩
  obtain ⟨tw, htw⟩ : ∃ tw, tw = fewB xs 50 := ⟨_, rfl⟩
  rw [← htf] at HFT
  rw [← htw] at HFW
  rw [← hm] at HFW hxl hx2 ⊢
  have HL := Lib.hid (And.intro hm (And.intro hx2 (And.intro htf htw)))
  have hm9 : m ≤ 9223372036854775807 := by simp only [maxLen] at hxl; omega
  clear hxl hx2 hm htf htw
  go_enter Tryz.func4, Tryz.ntmps4
  go_wp2_with fail
  refine HFT.out.mono ?_
  rintro e w0 ⟨rfl, rfl⟩
  cases tf with
  | false =>
    go_wp2_with fail
    refine (known_any _).mono ?_
    rintro e w9 ⟨rfl, f9⟩
    have H9 := Lib.hid f9
    clear f9
    go_wp2_with fail
    go_ret
    exact ⟨rfl, H9.out⟩
  | true =>
    go_wp2_with fail
    refine HFW.out.mono ?_
    rintro e w1 ⟨rfl, f1⟩
    have H1 := Lib.hid f1
    clear f1
    cases tw with
    | false =>
      go_wp2_with fail
      refine (known_any _).mono ?_
      rintro e w9 ⟨rfl, f9⟩
      have H9 := Lib.hid f9
      clear f9
      go_wp2_with fail
      go_ret
      exact ⟨rfl, H1.out.trans H9.out (fun _ _ q => q)⟩
    | true =>
      by_cases h1 : one < 2
      · go_wp2_with fail
        refine (known_any _).mono ?_
        rintro e w9 ⟨rfl, f9⟩
        have H9 := Lib.hid f9
        clear f9
        go_wp2_with fail
        go_ret
        exact ⟨rfl, H1.out.trans H9.out (fun _ _ q => q)⟩
      by_cases h2 : one > 100
      · go_wp2_with fail
        refine (known_any _).mono ?_
        rintro e w9 ⟨rfl, f9⟩
        have H9 := Lib.hid f9
        clear f9
        go_wp2_with fail
        go_ret
        exact ⟨rfl, H1.out.trans H9.out (fun _ _ q => q)⟩
      by_cases h3 : two < 2
      · go_wp2_with fail
        refine (known_any _).mono ?_
        rintro e w9 ⟨rfl, f9⟩
        have H9 := Lib.hid f9
        clear f9
        go_wp2_with fail
        go_ret
        exact ⟨rfl, H1.out.trans H9.out (fun _ _ q => q)⟩
      by_cases h4 : two > 100
      · go_wp2_with fail
        refine (known_any _).mono ?_
        rintro e w9 ⟨rfl, f9⟩
        have H9 := Lib.hid f9
        clear f9
        go_wp2_with fail
        go_ret
        exact ⟨rfl, H1.out.trans H9.out (fun _ _ q => q)⟩
      obtain ⟨hp4, hp8, hz4, hz8⟩ : 4 ≤ pages ∧ pages ≤ 80 ∧ 4 ≤ z ∧ z ≤ 400 := by
        have := HL.out.2.2.1
        unfold fitsB at this
        simpa [Bool.and_eq_true, decide_eq_true_eq, and_assoc] using this.symm
      obtain ⟨hsx, hm5⟩ : (∀ x ∈ xs, x.n ≤ 600) ∧ m ≤ 50 := by
        have := HL.out.2.2.2
        unfold fewB at this
        rw [← HL.out.1] at this
        simpa [Bool.and_eq_true, decide_eq_true_eq] using this.symm
      obtain ⟨P, rfl⟩ : ∃ P : Nat, pages = P := ⟨pages.toNat, by omega⟩
      obtain ⟨Z, rfl⟩ : ∃ Z : Nat, z = Z := ⟨z.toNat, by omega⟩
      obtain ⟨o1, rfl⟩ : ∃ o1 : Nat, one = o1 := ⟨one.toNat, by omega⟩
      obtain ⟨o2, rfl⟩ : ∃ o2 : Nat, two = o2 := ⟨two.toNat, by omega⟩
      have HSX := Lib.hid hsx
      have HB1 := Lib.hid (begun_any w1 (pages := P) (z := Z) (fr := o1) (by omega) (by omega) (by omega) (by omega) (by omega) (by omega))
      clear hsx
      go_wp2_with fail
      refine HB1.out.mono ?_
      rintro e w2 ⟨g, p, S1, x0, rfl, hA1, hF1, f2⟩
      have HB2 := Lib.hid (begun_any w2 (pages := P) (z := Z) (fr := o2) (by omega) (by omega) (by omega) (by omega) (by omega) (by omega))
      have H2 := Lib.hid (And.intro hA1 (And.intro hF1 f2))
      clear hA1 hF1 f2 HB1
      go_wp2_with fail
      refine HB2.out.mono ?_
      rintro e w3 ⟨g', q, S2, y0, rfl, hA2, hF2, f3⟩
      have s1 := H1.out.size
      have s2 := H2.out.2.2.size
      have hPP : PP w3 w.heap.size (fun _ => False) p g q g' x0 y0 := ⟨S1, S2, (H2.out.1.low s1).new f3, hA2.low (by omega), fun b h1 h2 => by have := (H2.out.1.sub b h1).2; have := (hA2.sub b h2).1; omega, fun b hb => hb.elim⟩
      have H3 := Lib.hid (And.intro hPP (And.intro (Two.fresh H2.out.2.1 hF2) ((H1.out.trans H2.out.2.2 (fun _ _ q => q)).trans f3 (fun _ _ q => q))))
      clear hPP hA2 hF2 f3 HB2 s1 s2
      go_wp2_with fail
      go_loopw [17] (fun i wr => ∃ k : Nat, i = .int .i64 k ∧ k ≤ m ∧ Hid (∃ x y, PP wr w.heap.size (fun _ => False) p g q g' x y ∧ Two x y (3 + k) o1 o2) ∧ Hid (Fr (fun b => w.heap.size ≤ b) w wr)) (fun i _ => m - (intOf i).toNat)
      case atStart => exact ⟨0, rfl, Nat.zero_le _, Lib.hid ⟨x0, y0, H3.out.1, H3.out.2.1⟩, Lib.hid (H3.out.2.2.mono (fun _ _ q => q.elim))⟩
      case round =>
        obtain ⟨k, rfl, hk, HS, HF⟩ := hrel
        by_cases hlt : k < m
        · obtain ⟨x, y, hPP, hTw⟩ := HS.out
          obtain ⟨b, off, rfl, hs⟩ := HL.out.2.1 (by omega)
          obtain ⟨s, hsk⟩ : ∃ s, xs[k]? = some s := ⟨_, List.getElem?_eq_getElem (by have := HL.out.1; omega)⟩
          obtain ⟨hak, har⟩ := hs k s hsk
          have hn6 := HSX.out s (List.mem_of_getElem? hsk)
          obtain ⟨⟨kd, sl, nx, bl⟩, As, ns, cs⟩ := s
          have hrg : wr.rangeAt b (off + k * 4) [.int .i64 kd, .int .i64 sl, .int .i64 nx, .slice As ns cs] := fun j u hj => by
            have h0 := har w (Fr.refl _ _) j u hj
            exact (HF.out.cell (World.block_lt_of_cell? w _ h0) (fun q => by have := World.block_lt_of_cell? w _ h0; omega)).trans h0
          have hrdw : Rd w As ns bl := hak.rd
          have hrd : Rd wr As ns bl := rd_low hak.rd HF.out
          have hnc : ns ≤ cs := hak.nc
          have hn6' : ns ≤ 600 := hn6
          obtain ⟨WZ, hWZ⟩ : ∃ WZ, WZ = ((wr.alloc (.cells #[.int .i64 kd, .int .i64 sl, .int .i64 nx, .slice As ns cs] 48)).alloc (.cells Tryz.zeroCells50 50)).alloc (.cells Tryz.zeroCells50 50) := ⟨_, rfl⟩
          have fZ : Fr (fun _ => False) wr WZ := by rw [hWZ]; exact ((((Fr.refl _ wr).alloc _).alloc _).alloc _)
          have hb8 : Blk WZ wr.heap.size 48 #[.int .i64 kd, .int .i64 sl, .int .i64 nx, .slice As ns cs] := by
            rw [hWZ]
            exact (Blk.new wr _ _).keep (F := fun _ => False) (((Fr.refl _ _).alloc _).alloc _) (fun q => q)
          have hb1 : Blk WZ (wr.heap.size + 1) 50 (cellsB (nought 512)).toArray := by
            rw [hWZ, zeroPgCells]
            have := (Blk.new (wr.alloc (.cells #[.int .i64 kd, .int .i64 sl, .int .i64 nx, .slice As ns cs] 48)) 50 (cellsB (nought 512)).toArray).keep (F := fun _ => False) ((Fr.refl _ _).alloc (.cells (cellsB (nought 512)).toArray 50)) (fun q => q)
            simpa using this
          have hb2 : Blk WZ (wr.heap.size + 1 + 1) 50 (cellsB (nought 512)).toArray := by
            rw [hWZ, zeroPgCells]
            have := Blk.new ((wr.alloc (.cells #[.int .i64 kd, .int .i64 sl, .int .i64 nx, .slice As ns cs] 48)).alloc (.cells (cellsB (nought 512)).toArray 50)) 50 (cellsB (nought 512)).toArray
            simpa using this
          obtain ⟨X, hX⟩ : ∃ X : Nat → Prop, X = fun b => wr.heap.size ≤ b ∧ b ≤ wr.heap.size + 2 := ⟨_, rfl⟩
          have hPZ := hPP.mark (X' := X) fZ (fun b hb => by rw [hX] at hb; have := hb2.lt; omega)
          have HZ := Lib.hid (And.intro hPZ (And.intro hTw (And.intro hb8 (And.intro hb1 (And.intro hb2 (And.intro (hrd.keep fZ (fun _ _ q => q)) (And.intro (HF.out.trans fZ (fun _ _ q => q.elim)) hX)))))))
          have hnx : ∀ b, wr.heap.size ≤ b → b ≤ wr.heap.size + 2 → X b := fun b h1 h2 => by rw [hX]; exact ⟨h1, h2⟩
          have HNX := Lib.hid hnx
          have hk0 : (0 : Int) ≤ (k : Int) := by omega
          have hkm : (k : Int) < (m : Int) := by omega
          have hst : Tryz.prog.underlying 48 = _ := Tryz.underlying48
          clear hPP hTw hs hsk hak har hn6 hrd hb8 hb1 hb2 hPZ hX hnx hlt hst
          go_upto_region 13 with (refine wpList_load_mid rfl 48 _ rfl b (off + k * 4) rfl [.int .i64 kd, .int .i64 sl, .int .i64 nx, .slice As ns cs] _ hrg Tryz.underlying48 rfl infoAct ?_)
          rw [← hWZ]
          have hc0 : WZ.cell? ⟨wr.heap.size, 0, none⟩ = some (.int .i64 kd) := by rw [HZ.out.2.2.1.cell]; rfl
          have HCC : Hid (∀ W, Fr (fun b => w.heap.size ≤ b ∧ ¬ X b) WZ W → W.cell? ⟨wr.heap.size, 1, none⟩ = some (.int .i64 sl) ∧ W.cell? ⟨wr.heap.size, 3, none⟩ = some (.slice As ns cs)) := Lib.hid fun W f => by
            have q := HZ.out.2.2.1.keep f (fun q => q.2 (HNX.out _ (Nat.le_refl _) (by omega)))
            exact ⟨by rw [q.cell]; rfl, by rw [q.cell]; rfl⟩
          clear hWZ hrg
          go_upto_block 2 with fail
          go_cut [19, 20] from 83 to 132 (fun s19 s20 wx => ∃ (E : Int) (pg : List UInt8) (x' y' : PX), s19 = .int .i64 E ∧ s20 = .int .i64 E ∧ Hid (pg.length = 512 ∧ Blk wx (wr.heap.size + 1) 50 (cellsB pg).toArray ∧ Blk wx (wr.heap.size + 1 + 1) 50 (cellsB pg).toArray ∧ PP wx w.heap.size X p g q g' x' y' ∧ Two x' y' (3 + k + 1) o1 o2 ∧ Fr (fun b => w.heap.size ≤ b) w wx))
          case first =>
            have hX1 : X (wr.heap.size + 1) := HNX.out _ (by omega) (by omega)
            have hX2 : X (wr.heap.size + 1 + 1) := HNX.out _ (by omega) (by omega)
            have HXX := Lib.hid (And.intro hX1 hX2)
            have hc1 := (HCC.out WZ (Fr.refl _ _)).1
            have hc3 := (HCC.out WZ (Fr.refl _ _)).2
            have hlow : ∀ W, Fr (fun b => w.heap.size ≤ b ∧ ¬ X b) WZ W → Fr (fun b => w.heap.size ≤ b) w W ∧ Blk W (wr.heap.size + 1) 50 (cellsB (nought 512)).toArray ∧ Blk W (wr.heap.size + 1 + 1) 50 (cellsB (nought 512)).toArray := fun W f => ⟨HZ.out.2.2.2.2.2.2.1.trans f (fun _ _ q => q.1), HZ.out.2.2.2.1.keep f (fun q => q.2 hX1), HZ.out.2.2.2.2.1.keep f (fun q => q.2 hX2)⟩
            have HLO := Lib.hid hlow
            clear hX1 hX2 hlow
            by_cases e1 : kd = 1
            · have b1 : (kd == 1) = true := by simp [e1]
              obtain ⟨pg, hpg⟩ : ∃ pg, pg = x.getV sl := ⟨_, rfl⟩
              obtain ⟨E, hE⟩ : ∃ E, E = x.inE sl := ⟨_, rfl⟩
              have hpl : pg.length = 512 := by rw [hpg]; exact HZ.out.2.1.gx.getV_len sl
              obtain ⟨Sa, hA, hto⟩ := HZ.out.1.one
              have HG := Lib.hid (pa_getZ hA HZ.out.2.1.gx sl)
              rw [← hpg, ← hE] at HG
              have HTO := Lib.hid hto
              have HPG := Lib.hid (And.intro hpl (And.intro hpg hE))
              clear hA hto e1 hpl hpg hE
              go_wp2_with fail
              refine HG.out.mono ?_
              rintro e wa ⟨rfl, hT⟩
              obtain ⟨hPa, fa⟩ := HTO.out wa _ hT
              obtain ⟨gF, gB1, gB2⟩ := HLO.out wa fa
              have gth := gB1.there (o := 0) (n := 512) (by simp [cellsB_len, nought_len])
              obtain ⟨W1, hW1⟩ : ∃ W1, W1 = wa.setCells (wr.heap.size + 1) 0 (cellsB pg) := ⟨_, rfl⟩
              have fS : Fr (fun b => b = wr.heap.size + 1) wa W1 := by rw [hW1]; exact Fr.setCells (F := fun b => b = wr.heap.size + 1) (.inl rfl) (Fr.refl _ _)
              have hP1 := hPa.put fS HXX.out.1 gB1 (by decide)
              have gB1' : Blk W1 (wr.heap.size + 1) 50 (cellsB pg).toArray := by
                have := gB1.over (o := 0) (m := pg) (by rw [nought_len, HPG.out.1]; omega)
                rw [patch_all (by rw [nought_len, HPG.out.1])] at this
                rw [hW1]
                exact this
              have gB2' := gB2.keep fS (fun q => by omega)
              have hc1' : W1.cell? ⟨wr.heap.size, 1, none⟩ = some (.int .i64 sl) := by
                have h9 := (HZ.out.2.2.1.keep fa (fun q => q.2 (HNX.out _ (Nat.le_refl _) (by omega)))).keep fS (fun q => by omega)
                rw [h9.cell]; rfl
              obtain ⟨Sb, hA2, hto2⟩ := hP1.two
              have HG2 := Lib.hid (pa_getZ hA2 HZ.out.2.1.gy sl)
              rw [← HZ.out.2.1.tw.getV sl, ← HZ.out.2.1.tw.inE sl, ← HPG.out.2.1, ← HPG.out.2.2] at HG2
              have H1' := Lib.hid (And.intro hto2 (And.intro gB1' (And.intro gB2' (And.intro (gF.trans fS (fun b _ q => by have := HF.out.size; omega)) (And.intro hW1 gth)))))
              clear hT hPa fa gF gB1 gB2 gth hW1 fS hP1 gB1' gB2' hA2 hto2 hc1 hc3 hc0 HG
              go_wp2_with (refine wpList_store_mid rfl 50 _ _ rfl (wr.heap.size + 1) 0 (cellsB pg).toArray rfl rfl (by simp only [List.size_toArray, cellsB_len, HPG.out.1]; exact H1'.out.2.2.2.2.2) (by rw [infoPgS]; simp [cellsB_len, HPG.out.1]) (all_oneCell_toArray (cellsB_one _)) ?_; rw [← H1'.out.2.2.2.2.1])
              refine HG2.out.mono ?_
              rintro e wb ⟨rfl, hT⟩
              obtain ⟨hPb, fb⟩ := H1'.out.1 wb _ hT
              have gB1 := H1'.out.2.1.keep fb (fun q => q.2 HXX.out.1)
              have gB2 := H1'.out.2.2.1.keep fb (fun q => q.2 HXX.out.2)
              have gF := H1'.out.2.2.2.1.trans fb (fun b _ q => q.1)
              have gth := gB2.there (o := 0) (n := 512) (by simp [cellsB_len, nought_len])
              have H2' := Lib.hid (And.intro hPb (And.intro gB1 (And.intro gB2 (And.intro gF gth))))
              clear hT hPb fb gB1 gB2 gF gth hc1' HG2
              go_wp2_with (refine wpList_store_mid rfl 50 _ _ rfl (wr.heap.size + 1 + 1) 0 (cellsB pg).toArray rfl rfl (by simp only [List.size_toArray, cellsB_len, HPG.out.1]; exact H2'.out.2.2.2.2) (by rw [infoPgS]; simp [cellsB_len, HPG.out.1]) (all_oneCell_toArray (cellsB_one _)) ?_)
              go_meet
              have fS2 : Fr (fun b => b = wr.heap.size + 1 + 1) wb (wb.setCells (wr.heap.size + 1 + 1) 0 (cellsB pg)) := Fr.setCells (F := fun b => b = wr.heap.size + 1 + 1) (.inl rfl) (Fr.refl _ _)
              have gB2' := H2'.out.2.2.1.over (o := 0) (m := pg) (by rw [nought_len, HPG.out.1]; omega)
              rw [patch_all (by rw [nought_len, HPG.out.1])] at gB2'
              exact ⟨E, pg, x.getZ sl, y.getZ sl, rfl, rfl, Lib.hid ⟨HPG.out.1, H2'.out.2.1.keep fS2 (fun q => by omega), gB2', H2'.out.1.put fS2 HXX.out.2 H2'.out.2.2.1 (by decide), (HZ.out.2.1.get sl).mono (by omega), H2'.out.2.2.2.1.trans fS2 (fun b _ q => by have := HF.out.size; omega)⟩⟩
            have b1 : (kd == 1) = false := by simp [e1]
            by_cases e2 : kd = 2
            · have b2 : (kd == 2) = true := by simp [e2]
              obtain ⟨pg, hpg⟩ : ∃ pg, pg = pageOf bl := ⟨_, rfl⟩
              obtain ⟨E, hE⟩ : ∃ E, E = x.inE sl := ⟨_, rfl⟩
              have hpl : pg.length = 512 := by rw [hpg]; exact pageOf_len _
              have hpa : ∀ W, Fr (fun b => w.heap.size ≤ b) w W → Calls Tryz.prog 20 #[.slice As ns cs] W fun e w' => e = .returned (av pg) ∧ Fr (fun _ => False) W w' := fun W f => by
                rw [hpg]
                exact page_any (rd_low hrdw f) (by omega)
              have HPA := Lib.hid hpa
              have HPG := Lib.hid (And.intro hpl (And.intro hpg hE))
              have hSZ : WZ.drew.cell? ⟨wr.heap.size, 1, none⟩ = some (.int .i64 sl) ∧ WZ.drew.cell? ⟨wr.heap.size, 3, none⟩ = some (.slice As ns cs) := ⟨hc1, hc3⟩
              clear e1 e2 hpl hpg hE hpa hc1 hc3
              go_wp2_with fail
              (try simp only [Act.put, List.setIfInBounds_toArray, List.set_cons_zero, List.set_cons_succ])
              refine wp_region_held_drew (S := fun w' => w'.cell? ⟨wr.heap.size, 1, none⟩ = some (.int .i64 sl) ∧ w'.cell? ⟨wr.heap.size, 3, none⟩ = some (.slice As ns cs)) (by kernel_rfl) hSZ (fun hS0 => ?_)
              refine anyH_take 0 101 (.pointer (some ⟨p, 0, none⟩)) rfl rfl (by kernel_rfl) (by kernel_rfl) (by kernel_rfl) (fun _ _ _ h => h) (.inl ⟨by rfl, fun w'' hS => by go_simp⟩) hS0 ?_
              (simp only [List.setIfInBounds_toArray, List.set_cons_zero, List.set_cons_succ])
              refine anyH_take 1 102 (.pointer (some ⟨wr.heap.size, 1, none⟩)) rfl rfl (by kernel_rfl) (by kernel_rfl) (by kernel_rfl) (fun _ _ _ h => h) (.inl ⟨by rfl, fun w'' hS => by go_simp⟩) hS0 ?_
              (simp only [List.setIfInBounds_toArray, List.set_cons_zero, List.set_cons_succ])
              refine anyH_take 2 103 (.int .i64 sl) rfl rfl (by kernel_rfl) (by kernel_rfl) (by kernel_rfl) (fun _ _ _ h => h) (.inl ⟨by rfl, fun w'' hS => by have q0 := hS.1; go_simp⟩) hS0 ?_
              (simp only [List.setIfInBounds_toArray, List.set_cons_zero, List.set_cons_succ])
              refine anyH_take 3 104 (.pointer (some ⟨wr.heap.size, 3, none⟩)) rfl rfl (by kernel_rfl) (by kernel_rfl) (by kernel_rfl) (fun _ _ _ h => h) (.inl ⟨by rfl, fun w'' hS => by go_simp⟩) hS0 ?_
              (simp only [List.setIfInBounds_toArray, List.set_cons_zero, List.set_cons_succ])
              refine anyH_take 4 105 (.slice As ns cs) rfl rfl (by kernel_rfl) (by kernel_rfl) (by kernel_rfl) (fun _ _ _ h => h) (.inl ⟨by rfl, fun w'' hS => by have q0 := hS.2; go_simp⟩) hS0 ?_
              (simp only [List.setIfInBounds_toArray, List.set_cons_zero, List.set_cons_succ])
              refine anyH_take 7 108 (.pointer (some ⟨q, 0, none⟩)) rfl rfl (by kernel_rfl) (by kernel_rfl) (by kernel_rfl) (fun _ _ _ h => h) (.inl ⟨by rfl, fun w'' hS => by go_simp⟩) hS0 ?_
              (simp only [List.setIfInBounds_toArray, List.set_cons_zero, List.set_cons_succ])
              refine anyH_take 8 109 (.pointer (some ⟨wr.heap.size, 1, none⟩)) rfl rfl (by kernel_rfl) (by kernel_rfl) (by kernel_rfl) (fun _ _ _ h => h) (.inl ⟨by rfl, fun w'' hS => by go_simp⟩) hS0 ?_
              (simp only [List.setIfInBounds_toArray, List.set_cons_zero, List.set_cons_succ])
              refine anyH_take 9 110 (.int .i64 sl) rfl rfl (by kernel_rfl) (by kernel_rfl) (by kernel_rfl) (fun _ _ _ h => h) (.inl ⟨by rfl, fun w'' hS => by have q0 := hS.1; go_simp⟩) hS0 ?_
              (simp only [List.setIfInBounds_toArray, List.set_cons_zero, List.set_cons_succ])
              refine anyH_take 10 111 (.pointer (some ⟨wr.heap.size, 3, none⟩)) rfl rfl (by kernel_rfl) (by kernel_rfl) (by kernel_rfl) (fun _ _ _ h => h) (.inl ⟨by rfl, fun w'' hS => by go_simp⟩) hS0 ?_
              (simp only [List.setIfInBounds_toArray, List.set_cons_zero, List.set_cons_succ])
              refine anyH_take 11 112 (.slice As ns cs) rfl rfl (by kernel_rfl) (by kernel_rfl) (by kernel_rfl) (fun _ _ _ h => h) (.inl ⟨by rfl, fun w'' hS => by have q0 := hS.2; go_simp⟩) hS0 ?_
              (simp only [List.setIfInBounds_toArray, List.set_cons_zero, List.set_cons_succ])
              refine anyH_enter 5 106 (f := 20) (args := #[.slice As ns cs]) (by kernel_rfl) rfl rfl (by rfl) (by go_simp) ?_
              refine (HPA.out WZ.drew HZ.out.2.2.2.2.2.2.1.drew).mono ?_
              rintro en wa ⟨rfl, fa⟩
              have fa' : Fr (fun _ => False) WZ wa := ((Fr.refl (fun _ => False) WZ).drew).trans fa (fun _ _ q => q)
              have hSa := HCC.out wa (fa'.mono (fun _ _ q => q.elim))
              refine ⟨_, rfl, hSa, ?_⟩
              (simp only [List.setIfInBounds_toArray, List.set_cons_zero, List.set_cons_succ])
              obtain ⟨Sa, hA, hto⟩ := (HZ.out.1.new fa').one
              have HPU := Lib.hid (pa_putZ hA HZ.out.2.1.gx sl HPG.out.1)
              rw [← HPG.out.2.2] at HPU
              refine anyH_enter 6 107 (f := 19) (args := #[.pointer (some ⟨p, 0, none⟩), .int .i64 sl, av pg]) (by kernel_rfl) rfl rfl (by rfl) (by go_simp) ?_
              refine HPU.out.mono ?_
              rintro en wb ⟨rfl, hT⟩
              obtain ⟨hPb, fb⟩ := hto wb _ hT
              have fb' : Fr (fun b => w.heap.size ≤ b ∧ ¬ X b) WZ wb := (fa'.mono (fun _ _ q => q.elim)).trans fb (fun _ _ q => q)
              have hSb := HCC.out wb fb'
              refine ⟨_, rfl, hSb, ?_⟩
              (simp only [List.setIfInBounds_toArray, List.set_cons_zero, List.set_cons_succ])
              refine anyH_enter 12 113 (f := 20) (args := #[.slice As ns cs]) (by kernel_rfl) rfl rfl (by rfl) (by go_simp) ?_
              refine (HPA.out wb (HLO.out wb fb').1).mono ?_
              rintro en wc1 ⟨rfl, fc⟩
              have fc' : Fr (fun b => w.heap.size ≤ b ∧ ¬ X b) WZ wc1 := fb'.trans fc (fun _ _ q => q.elim)
              have hSc := HCC.out wc1 fc'
              refine ⟨_, rfl, hSc, ?_⟩
              (simp only [List.setIfInBounds_toArray, List.set_cons_zero, List.set_cons_succ])
              obtain ⟨Sb, hA2, hto2⟩ := (hPb.new fc).two
              have HPU2 := Lib.hid (pa_putZ hA2 HZ.out.2.1.gy sl HPG.out.1)
              rw [← HZ.out.2.1.tw.inE sl, ← HPG.out.2.2] at HPU2
              refine anyH_enter 13 114 (f := 19) (args := #[.pointer (some ⟨q, 0, none⟩), .int .i64 sl, av pg]) (by kernel_rfl) rfl rfl (by rfl) (by go_simp) ?_
              refine HPU2.out.mono ?_
              rintro en wd ⟨rfl, hT2⟩
              obtain ⟨hPd, fd⟩ := hto2 wd _ hT2
              have fd' : Fr (fun b => w.heap.size ≤ b ∧ ¬ X b) WZ wd := fc'.trans fd (fun _ _ q => q)
              have hSd := HCC.out wd fd'
              refine ⟨_, rfl, hSd, ?_⟩
              (simp only [List.setIfInBounds_toArray, List.set_cons_zero, List.set_cons_succ])
              refine anyH_take 14 19 (.int .i64 E) rfl rfl (by kernel_rfl) (by kernel_rfl) (by kernel_rfl) (fun _ _ _ h => h) (.inl ⟨by rfl, fun w'' hS => by go_simp⟩) hSd ?_
              (simp only [List.setIfInBounds_toArray, List.set_cons_zero, List.set_cons_succ])
              refine anyH_take 15 20 (.int .i64 E) rfl rfl (by kernel_rfl) (by kernel_rfl) (by kernel_rfl) (fun _ _ _ h => h) (.inl ⟨by rfl, fun w'' hS => by go_simp⟩) hSd ?_
              (simp only [List.setIfInBounds_toArray, List.set_cons_zero, List.set_cons_succ])
              refine wpAnyH_done (by kernel_rfl) ?_ _
              have HD := Lib.hid (And.intro hPd fd')
              clear hS0 hSZ fa fa' hSa hA hto hT hPb fb fb' hSb fc fc' hSc hA2 hto2 hT2 hPd fd fd' hSd HPU HPU2
              go_wp2_with fail
              go_meet
              exact ⟨E, nought 512, x.putZ sl pg, y.putZ sl pg, rfl, rfl, Lib.hid ⟨nought_len 512, (HLO.out wd HD.out.2).2.1, (HLO.out wd HD.out.2).2.2, HD.out.1, (HZ.out.2.1.put sl HPG.out.1).mono (by omega), (HLO.out wd HD.out.2).1⟩⟩
            have b2 : (kd == 2) = false := by simp [e2]
            by_cases e3 : kd = 3
            · have b3 : (kd == 3) = true := by simp [e3]
              obtain ⟨Sa, hA, hto⟩ := HZ.out.1.one
              obtain ⟨E, hE⟩ : ∃ E : Int, E = x.comE := ⟨_, rfl⟩
              have HG := Lib.hid (pa_comZ hA HZ.out.2.1.gx (by simp only [maxC]; omega))
              rw [← hE] at HG
              have HTO := Lib.hid (And.intro hto hE)
              clear hA hto e1 e2 e3 hc1 hc3 hE
              go_wp2_with fail
              refine HG.out.mono ?_
              rintro e wa ⟨rfl, hT⟩
              obtain ⟨hPa, fa⟩ := HTO.out.1 wa _ hT
              obtain ⟨Sb, hA2, hto2⟩ := hPa.two
              have HG2 := Lib.hid (pa_comZ hA2 HZ.out.2.1.gy (by simp only [maxC]; omega))
              rw [← HZ.out.2.1.tw.comE, ← HTO.out.2] at HG2
              have HA2 := Lib.hid (And.intro hto2 fa)
              clear hT hPa fa hA2 hto2 HG
              go_wp2_with fail
              refine HG2.out.mono ?_
              rintro e wb ⟨rfl, hT⟩
              obtain ⟨hPb, fb⟩ := HA2.out.1 wb _ hT
              have HD := Lib.hid (And.intro hPb (HA2.out.2.trans fb (fun _ _ q => q)))
              clear hT hPb fb HG2
              go_wp2_with fail
              go_meet
              exact ⟨E, nought 512, x.comZ, y.comZ, rfl, rfl, Lib.hid ⟨nought_len 512, (HLO.out wb HD.out.2).2.1, (HLO.out wb HD.out.2).2.2, HD.out.1, HZ.out.2.1.com (by simp only [maxC]; omega), (HLO.out wb HD.out.2).1⟩⟩
            have b3 : (kd == 3) = false := by simp [e3]
            by_cases e4 : kd = 4
            · have b4 : (kd == 4) = true := by simp [e4]
              obtain ⟨Sa, hA, hto⟩ := HZ.out.1.one
              obtain ⟨E, hE⟩ : ∃ E : Int, E = 0 := ⟨_, rfl⟩
              have HG := Lib.hid (pa_abort hA HZ.out.2.1.gx.ok)
              skip
              have HTO := Lib.hid (And.intro hto hE)
              clear hA hto e1 e2 e3 e4 hc1 hc3 hE
              go_wp2_with fail
              refine HG.out.mono ?_
              rintro e wa ⟨rfl, hT⟩
              obtain ⟨hPa, fa⟩ := HTO.out.1 wa _ hT
              obtain ⟨Sb, hA2, hto2⟩ := hPa.two
              have HG2 := Lib.hid (pa_abort hA2 HZ.out.2.1.gy.ok)
              skip
              have HA2 := Lib.hid (And.intro hto2 fa)
              clear hT hPa fa hA2 hto2 HG
              go_wp2_with fail
              refine HG2.out.mono ?_
              rintro e wb ⟨rfl, hT⟩
              obtain ⟨hPb, fb⟩ := HA2.out.1 wb _ hT
              have HD := Lib.hid (And.intro hPb (HA2.out.2.trans fb (fun _ _ q => q)))
              clear hT hPb fb HG2
              go_wp2_with fail
              go_meet
              exact ⟨0, nought 512, x.aborted, y.aborted, rfl, rfl, Lib.hid ⟨nought_len 512, (HLO.out wb HD.out.2).2.1, (HLO.out wb HD.out.2).2.2, HD.out.1, HZ.out.2.1.abort.mono (by omega), (HLO.out wb HD.out.2).1⟩⟩
            have b4 : (kd == 4) = false := by simp [e4]
            by_cases e5 : kd = 5
            · have b5 : (kd == 5) = true := by simp [e5]
              obtain ⟨Sa, hA, hto⟩ := HZ.out.1.one
              obtain ⟨E, hE⟩ : ∃ E : Int, E = x.ckE := ⟨_, rfl⟩
              have HG := Lib.hid (pa_ckZ hA HZ.out.2.1.gx (by simp only [maxC]; omega))
              rw [← hE] at HG
              have HTO := Lib.hid (And.intro hto hE)
              clear hA hto e1 e2 e3 e4 e5 hc1 hc3 hE
              go_wp2_with fail
              refine HG.out.mono ?_
              rintro e wa ⟨rfl, hT⟩
              obtain ⟨hPa, fa⟩ := HTO.out.1 wa _ hT
              obtain ⟨Sb, hA2, hto2⟩ := hPa.two
              have HG2 := Lib.hid (pa_ckZ hA2 HZ.out.2.1.gy (by simp only [maxC]; omega))
              rw [← HZ.out.2.1.tw.ckE, ← HTO.out.2] at HG2
              have HA2 := Lib.hid (And.intro hto2 fa)
              clear hT hPa fa hA2 hto2 HG
              go_wp2_with fail
              refine HG2.out.mono ?_
              rintro e wb ⟨rfl, hT⟩
              obtain ⟨hPb, fb⟩ := HA2.out.1 wb _ hT
              have HD := Lib.hid (And.intro hPb (HA2.out.2.trans fb (fun _ _ q => q)))
              clear hT hPb fb HG2
              go_wp2_with fail
              go_meet
              exact ⟨E, nought 512, x.ckZ, y.ckZ, rfl, rfl, Lib.hid ⟨nought_len 512, (HLO.out wb HD.out.2).2.1, (HLO.out wb HD.out.2).2.2, HD.out.1, HZ.out.2.1.ck (by simp only [maxC]; omega), (HLO.out wb HD.out.2).1⟩⟩
            have b5 : (kd == 5) = false := by simp [e5]
            clear e1 e2 e3 e4 e5 hc1 hc3
            go_wp2_with fail
            go_meet
            exact ⟨0, nought 512, x, y, rfl, rfl, Lib.hid ⟨nought_len 512, HZ.out.2.2.2.1, HZ.out.2.2.2.2.1, HZ.out.1, HZ.out.2.1.mono (by omega), HZ.out.2.2.2.2.2.2.1⟩⟩
          case rest =>
            obtain ⟨E, pg, x', y', rfl, rfl, HR⟩ := hcut
            obtain ⟨hpl, gB1, gB2, hPc, hTc, gF⟩ := HR.out
            have hbe : (E != E) = false := by simp
            have hcmp : ∀ W, (binOp .neq 50 (av pg) (av pg)).run Tryz.prog W = .ok (.bool false) W := fun W => by
              rw [pg_neq pg pg hpl hpl]
              simp
            have hr1 : wc.rangeAt (wr.heap.size + 1) 0 (cellsB pg) := fun j u hj => by rw [gB1.cell, Nat.zero_add]; simpa using hj
            have hr2 : wc.rangeAt (wr.heap.size + 1 + 1) 0 (cellsB pg) := fun j u hj => by rw [gB2.cell, Nat.zero_add]; simpa using hj
            obtain ⟨Sa, hA⟩ := hPc.sub_one
            have HC1 := Lib.hid (pa_changed hA hTc.gx.ok)
            obtain ⟨l1, hl1⟩ : ∃ l1, l1 = openF x'.f1 x'.N := ⟨_, rfl⟩
            obtain ⟨l2, hl2⟩ : ∃ l2, l2 = openF x'.f2 x'.N := ⟨_, rfl⟩
            rw [← hl1] at HC1
            have hlen : ∀ f : Nat → List UInt8, (openF f x'.N).length ≤ 2000 := fun f => by
              have : (openF f x'.N).length ≤ (List.range x'.N).length := List.length_filter_le _ _
              rw [List.length_range] at this
              have := hTc.gx.ok.nM
              omega
            have HLN := Lib.hid (And.intro hl1 (And.intro hl2 (And.intro (show l1.length ≤ 2000 by rw [hl1]; exact hlen _) (show l2.length ≤ 2000 by rw [hl2]; exact hlen _))))
            have HW := Lib.hid (And.intro hPc (And.intro hTc (And.intro gF (And.intro hr1 (And.intro hr2 hpl)))))
            clear gB1 gB2 hPc hTc gF hr1 hr2 hA hl1 hl2 hlen hpl hc0
            go_wp2_with (first
              | (refine wpList_load_want (by rfl) 50 _ rfl (wr.heap.size + 1) 0 rfl (cellsB pg) _ HW.out.2.2.2.1 Tryz.underlying50 rfl (by rw [infoPgS, cellsB_len, HW.out.2.2.2.2.2]) ?_)
              | (refine wpList_load_want (by rfl) 50 _ rfl (wr.heap.size + 1 + 1) 0 rfl (cellsB pg) _ HW.out.2.2.2.2.1 Tryz.underlying50 rfl (by rw [infoPgS, cellsB_len, HW.out.2.2.2.2.2]) ?_))
            refine HC1.out.mono ?_
            rintro e d1 ⟨u1, rfl, hu1, k1⟩
            obtain ⟨Sb, hA⟩ := (HW.out.1.new k1).sub_two
            have HC2 := Lib.hid (pa_changed hA HW.out.2.1.gy.ok)
            rw [← HW.out.2.1.tw.f1, ← HW.out.2.1.tw.N, ← HLN.out.1] at HC2
            have HK1 := Lib.hid (And.intro hu1 k1)
            clear hu1 k1 hA HC1 hcmp
            go_wp2_with fail
            refine HC2.out.mono ?_
            rintro e d2 ⟨u2, rfl, hu2, k2⟩
            have HSM := Lib.hid (isame_any (ints_new (ints_at HK1.out.1 rfl) k2) (ints_at hu2 rfl) (by simp; have := HLN.out.2.2.1; omega) (by simp; have := HLN.out.2.2.1; omega))
            rw [decide_eq_true rfl] at HSM
            have HK2 := Lib.hid (HK1.out.2.trans k2 (fun _ _ q => q))
            clear hu2 k2 HC2
            go_wp2_with fail
            refine HSM.out.mono ?_
            rintro e d3 ⟨rfl, k3⟩
            have hk3 := HK2.out.trans k3 (fun _ _ q => q)
            obtain ⟨Sa, hA⟩ := (HW.out.1.new hk3).sub_one
            have HD1 := Lib.hid (pa_dirty hA HW.out.2.1.gx.ok)
            rw [← HLN.out.2.1] at HD1
            have HK3 := Lib.hid hk3
            clear k3 hk3 hA HSM
            go_wp2_with fail
            refine HD1.out.mono ?_
            rintro e d4 ⟨u4, rfl, hu4, k4⟩
            have hk4 := HK3.out.trans k4 (fun _ _ q => q)
            obtain ⟨Sb, hA⟩ := (HW.out.1.new hk4).sub_two
            have HD2 := Lib.hid (pa_dirty hA HW.out.2.1.gy.ok)
            rw [← HW.out.2.1.tw.f2, ← HW.out.2.1.tw.N, ← HLN.out.2.1] at HD2
            have HK4 := Lib.hid (And.intro hu4 hk4)
            clear hu4 k4 hk4 hA HD1
            go_wp2_with fail
            refine HD2.out.mono ?_
            rintro e d5 ⟨u5, rfl, hu5, k5⟩
            have HSM := Lib.hid (isame_any (ints_new (ints_at HK4.out.1 rfl) k5) (ints_at hu5 rfl) (by simp; have := HLN.out.2.2.2; omega) (by simp; have := HLN.out.2.2.2; omega))
            rw [decide_eq_true rfl] at HSM
            have HK5 := Lib.hid (HK4.out.2.trans k5 (fun _ _ q => q))
            clear hu5 k5 HD2
            go_wp2_with fail
            refine HSM.out.mono ?_
            rintro e d6 ⟨rfl, k6⟩
            have hk6 := HK5.out.trans k6 (fun _ _ q => q)
            obtain ⟨Sa, hA⟩ := (HW.out.1.new hk6).sub_one
            obtain ⟨ro, hro⟩ : ∃ ro : Nat, ro = x'.z - x'.e := ⟨_, rfl⟩
            have HR1 := Lib.hid (pa_room hA HW.out.2.1.gx.ok)
            rw [← hro] at HR1
            have HK6 := Lib.hid (And.intro hk6 hro)
            clear k6 hk6 hA HSM hro
            go_wp2_with fail
            refine HR1.out.mono ?_
            rintro e d7 ⟨rfl, k7⟩
            have hk7 := HK6.out.1.trans k7 (fun _ _ q => q)
            obtain ⟨Sb, hA⟩ := (HW.out.1.new hk7).sub_two
            have HR2 := Lib.hid (pa_room hA HW.out.2.1.gy.ok)
            rw [← HW.out.2.1.tw.z, ← HW.out.2.1.tw.e, ← HK6.out.2] at HR2
            have HK7 := Lib.hid hk7
            clear k7 hk7 hA HR1
            go_wp2_with fail
            refine HR2.out.mono ?_
            rintro e d8 ⟨rfl, k8⟩
            have hk8 := HK7.out.trans k8 (fun _ _ q => q)
            obtain ⟨Sa, hA⟩ := (HW.out.1.new hk8).sub_one
            have HL1 := Lib.hid (pa_clean hA HW.out.2.1.gx.ok)
            have hro' : ((ro : Int) != (ro : Int)) = false := by simp
            have HK8 := Lib.hid hk8
            clear k8 hk8 hA HR2
            go_wp2_with fail
            refine HL1.out.mono ?_
            rintro e d9 ⟨u9, rfl, hu9, k9⟩
            have hk9 := HK8.out.trans k9 (fun _ _ q => q)
            obtain ⟨A9, c9, hu9e, _, _⟩ := own_slice hu9
            obtain ⟨n9, hn9⟩ : ∃ n9, n9 = x'.cl.length := ⟨_, rfl⟩
            have hle9 : n9 ≤ o1 := by rw [hn9, ← HW.out.2.1.f1]; exact HW.out.2.1.gx.ok.cll
            rw [← hn9] at hu9e
            subst hu9e
            obtain ⟨Sb, hA⟩ := (HW.out.1.new hk9).sub_two
            have HL2 := Lib.hid (pa_clean hA HW.out.2.1.gy.ok)
            have hg9 : ¬ (n9 : Int) > (o1 : Int) := by omega
            have HK9 := Lib.hid hk9
            clear k9 hk9 hA HL1 hu9 hn9 hle9
            go_wp2_with fail
            refine HL2.out.mono ?_
            rintro e d10 ⟨u10', rfl, hu10, k10⟩
            have hk10 := HK9.out.trans k10 (fun _ _ q => q)
            obtain ⟨A10, c10, hu10e, _, _⟩ := own_slice hu10
            obtain ⟨n10, hn10⟩ : ∃ n10, n10 = y'.cl.length := ⟨_, rfl⟩
            have hle10 : n10 ≤ o2 := by rw [hn10, ← HW.out.2.1.f2]; exact HW.out.2.1.gy.ok.cll
            rw [← hn10] at hu10e
            subst hu10e
            have hg10 : ¬ (n10 : Int) > (o2 : Int) := by omega
            have HK10 := Lib.hid hk10
            clear k10 hk10 HL2 hu10 hn10 hle10
            go_wp2_with fail
            refine ⟨⟨k + 1, by norm_cast, by omega, Lib.hid ⟨x', y', (HW.out.1.new HK10.out).mark (X' := fun _ => False) (Fr.refl _ _) (fun b hb => hb.elim), by have := HW.out.2.1; rwa [show 3 + k + 1 = 3 + (k + 1) by omega] at this⟩, Lib.hid (HW.out.2.2.1.trans HK10.out (fun _ _ q => q.elim))⟩, ?_⟩
            simp only [intOf]
            omega
        · obtain rfl : k = m := by omega
          clear hlt
          go_wp2_with fail
          refine (known_any _).mono ?_
          rintro e w9 ⟨rfl, f9⟩
          have H9 := Lib.hid f9
          clear f9
          go_wp2_with fail
          go_ret
          exact ⟨rfl, (HF.out.trans H9.out (fun _ _ q => q.elim)).mono (fun b hb q => by omega)⟩
end Go.Proofs.YtpdfpnpkbknhnaaGreat
