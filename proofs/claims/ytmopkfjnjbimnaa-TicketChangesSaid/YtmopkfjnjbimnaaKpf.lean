/- ticket's closures: tells$1, At$1. -/
import Derived.Test.YtmopkfjnjbimnaaKpe
namespace Go.Proofs.Ytmopkfjnjbimnaa
open Go.RowKit

set_option maxRecDepth 100000 in
set_option maxHeartbeats 8000000 in
theorem ptl1_any {w : World} {t : TkD} {x : EvT} {now : List Int} {d : Int} {gl gt N cap : Nat} {gN : Nat} {A1 A2 A3 : Option Addr} {n1 n2 n3 c1 c2 c3 : Nat}
    (hv : ∀ W, Fr (fun b => b = gl) w W → TkV W (tkC t (.slice A1 n1 c1) (.slice A2 n2 c2) (.slice A3 n3 c3)) t) (hb : ∀ W, Fr (fun b => b = gl) w W → Blk W gt 27 (tkA t (.slice A1 n1 c1) (.slice A2 n2 c2) (.slice A3 n3 c3)))
    (hl : Blk w gl 3 #[.int .i64 d]) (hN : now.length = N) (hNt : t.cps.length = N) (hN4 : N ≤ 1000) (hr : ∀ W, Fr (fun b => b = gl) w W → ∀ (i : Nat) (z : Int), now[i]? = some z → W.cell? ⟨gN, i, none⟩ = some (.int .i64 z)) :
    Calls Try.prog 84 #[.agg (evC x).toArray, .slice (some ⟨gN, 0, none⟩) N cap, .pointer (some ⟨gl, 0, none⟩), .pointer (some ⟨gt, 0, none⟩)] w fun e w' => e = .returned (.bool (tellG now d x)) ∧ Fr (fun b => b = gl) w w' ∧ (tellG now d x = true → Blk w' gl 3 #[.int .i64 x.dy]) := by
  obtain ⟨r, hrr⟩ : ∃ r, r = tellG now d x := ⟨_, rfl⟩
  rw [← hrr]
  have HR := Lib.hid hrr
  have HV := Lib.hid hv
  have HBT := Lib.hid hb
  have HL := Lib.hid hl
  have HNN := Lib.hid (And.intro hN (And.intro hNt hN4))
  have HRW := Lib.hid hr
  have hlt := hl.lt
  obtain ⟨xd, xc, xf, xt⟩ := x
  have HLD := Lib.hid (fun W => pleads_any xf xt W)
  have HAS := Lib.hid (fun W f => phas_any (w := W) (HV.out W f) xc)
  rw [hNt] at HAS
  obtain ⟨W0, hW0⟩ : ∃ W, W = w.alloc (.cells #[.int .i64 xd, .int .i64 xc, .int .i64 xf, .int .i64 xt] 51) := ⟨_, rfl⟩
  have HB : Hid (Fr (fun _ => False) w W0 ∧ Blk W0 w.heap.size 51 #[.int .i64 xd, .int .i64 xc, .int .i64 xf, .int .i64 xt] ∧ W0.heap.size = w.heap.size + 1) := Lib.hid (by rw [hW0]; exact ⟨(Fr.refl _ w).alloc _, Blk.new w _ _, Array.size_push _⟩)
  have HF0 : Hid (Fr (fun b => b = gl) w W0) := Lib.hid ((Fr.refl (fun b => b = gl) w).trans HB.out.1 (fun _ _ q => q.elim))
  have HQ := Lib.hid hW0
  have hq0 : W0.cell? ⟨w.heap.size, 0, none⟩ = some (.int .i64 xd) := cp_cell HB.out.2.1 0 rfl
  have hl0 := HL.out.keep HB.out.1 (fun q => q)
  have hqL : W0.cell? ⟨gl, 0, none⟩ = some (.int .i64 d) := cp_cell hl0 0 rfl
  have hfz := hl0.frozen 0
  obtain ⟨W2, hW2⟩ : ∃ W, W = W0.setCell ⟨gl, 0, none⟩ (.int .i64 xd) := ⟨_, rfl⟩
  have HW2 : Hid (Fr (fun b => b = gl) w W2 ∧ Blk W2 gl 3 #[.int .i64 xd] ∧ Blk W2 w.heap.size 51 #[.int .i64 xd, .int .i64 xc, .int .i64 xf, .int .i64 xt]) := Lib.hid (by
    rw [hW2]
    refine ⟨HF0.out.setCell (.inl rfl) _, hl0.set_ 0 _, HB.out.2.1.keep ((Fr.refl (fun b => b = gl) W0).setCell (p := ⟨gl, 0, none⟩) (.inl rfl) _) (fun q => by omega)⟩)
  have HQ2 := Lib.hid hW2
  have HEV : Hid (∀ W, Fr (fun _ => False) W2 W → W.cell? ⟨w.heap.size, 0, none⟩ = some (.int .i64 xd) ∧ W.cell? ⟨w.heap.size, 1, none⟩ = some (.int .i64 xc) ∧ W.cell? ⟨w.heap.size, 2, none⟩ = some (.int .i64 xf) ∧ W.cell? ⟨w.heap.size, 3, none⟩ = some (.int .i64 xt)) := Lib.hid (fun W f => by
    have hb := HW2.out.2.2.keep f (fun q => q)
    exact ⟨cp_cell hb 0 rfl, cp_cell hb 1 rfl, cp_cell hb 2 rfl, cp_cell hb 3 rfl⟩)
  clear hv hb hl hN hNt hN4 hr hrr hW0 hW2 hl0 hlt
  show Calls Try.prog 84 #[.agg #[.int .i64 xd, .int .i64 xc, .int .i64 xf, .int .i64 xt], .slice (some ⟨gN, 0, none⟩) N cap, .pointer (some ⟨gl, 0, none⟩), .pointer (some ⟨gt, 0, none⟩)] w _
  by_cases h0 : d ≤ xd
  · have q0 : ¬ xd < d := by omega
    by_cases h1 : xd ≤ 1000000
    · have q1 : ¬ 1000000 < xd := by omega
      cases h2 : hasB N xc with
      | false =>
        rw [h2] at HAS
        have H23 := Lib.hid h2
        clear h2
        obtain rfl : r = false := by rw [HR.out]; unfold tellG; rw [HNN.out.1]; simp [H23.out]
        clear h0 h1
        go_enter Try.func84, Try.ntmps84
        go_upto_region 1 with fail
        rw [← HQ.out]
        clear HQ
        go_upto_region 4 with fail
        rw [← HQ2.out]
        clear HQ2
        refine wp_region_held_drew (S := fun w' => Fr (fun b => b = gl) w w' ∧ Fr (fun _ => False) W2 w') (by kernel_rfl) (⟨HW2.out.1.drew, (Fr.refl _ W2).drew⟩) (fun hS0 => ?_)
        refine anyH_take 0 18 (.agg (tkA t (.slice A1 n1 c1) (.slice A2 n2 c2) (.slice A3 n3 c3))) rfl rfl (by kernel_rfl) (by kernel_rfl) (by kernel_rfl) (fun _ _ _ h => h) (yieldsIf_load_mid rfl 27 (.tmp 3) rfl gt 0 rfl (tkA t (.slice A1 n1 c1) (.slice A2 n2 c2) (.slice A3 n3 c3)).toList _ (fun w'' hS => blk_range (HBT.out _ hS.1)) Try.underlying27 rfl infoTk) hS0 ?_
        (simp only [List.setIfInBounds_toArray, List.set_cons_zero, List.set_cons_succ])
        refine anyH_take 1 19 (.pointer (some ⟨w.heap.size, 1, none⟩)) rfl rfl (by kernel_rfl) (by kernel_rfl) (by kernel_rfl) (fun _ _ _ h => h) (.inl ⟨by rfl, fun w'' hS => by go_simp⟩) hS0 ?_
        (simp only [List.setIfInBounds_toArray, List.set_cons_zero, List.set_cons_succ])
        refine anyH_take 2 20 (.int .i64 xc) rfl rfl (by kernel_rfl) (by kernel_rfl) (by kernel_rfl) (fun _ _ _ h => h) (.inl ⟨by rfl, fun w'' hS => by have q0 := (HEV.out _ hS.2).2.1; go_simp⟩) hS0 ?_
        (simp only [List.setIfInBounds_toArray, List.set_cons_zero, List.set_cons_succ])
        refine anyH_one 3 21 (.bool false) (by kernel_rfl) (tame_call 21 rfl rfl (by rfl) (fun w'' hS => by go_simp) (fun w'' hS => ((HAS.out w'' hS.1).mono fun e w3 he => ⟨he.1, hS.1.trans he.2 (fun _ _ q => q.elim), hS.2.trans he.2 (fun _ _ q => q)⟩))) hS0 (fun wq0 hS0 => ?_)
        (simp only [List.setIfInBounds_toArray, List.set_cons_zero, List.set_cons_succ])
        refine anyH_take 4 22 (.bool false) rfl rfl (by kernel_rfl) (by kernel_rfl) (by kernel_rfl) (fun _ _ _ h => h) (.inl ⟨by rfl, fun w'' hS => by go_simp⟩) hS0 ?_
        (simp only [List.setIfInBounds_toArray, List.set_cons_zero, List.set_cons_succ])
        refine anyH_take 5 23 undef rfl rfl (by kernel_rfl) (by kernel_rfl) (by kernel_rfl) (fun _ _ _ h => h) (.inr ⟨by rfl, rfl⟩) hS0 ?_
        (simp only [List.setIfInBounds_toArray, List.set_cons_zero, List.set_cons_succ])
        refine anyH_take 6 24 undef rfl rfl (by kernel_rfl) (by kernel_rfl) (by kernel_rfl) (fun _ _ _ h => h) (.inr ⟨by rfl, rfl⟩) hS0 ?_
        (simp only [List.setIfInBounds_toArray, List.set_cons_zero, List.set_cons_succ])
        refine anyH_take 7 25 undef rfl rfl (by kernel_rfl) (by kernel_rfl) (by kernel_rfl) (fun _ _ _ h => h) (.inr ⟨by rfl, rfl⟩) hS0 ?_
        (simp only [List.setIfInBounds_toArray, List.set_cons_zero, List.set_cons_succ])
        refine anyH_take 8 26 undef rfl rfl (by kernel_rfl) (by kernel_rfl) (by kernel_rfl) (fun _ _ _ h => h) (.inr ⟨by rfl, rfl⟩) hS0 ?_
        (simp only [List.setIfInBounds_toArray, List.set_cons_zero, List.set_cons_succ])
        refine anyH_take 9 27 undef rfl rfl (by kernel_rfl) (by kernel_rfl) (by kernel_rfl) (fun _ _ _ h => h) (.inr ⟨by rfl, rfl⟩) hS0 ?_
        (simp only [List.setIfInBounds_toArray, List.set_cons_zero, List.set_cons_succ])
        refine anyH_take 10 28 undef rfl rfl (by kernel_rfl) (by kernel_rfl) (by kernel_rfl) (fun _ _ _ h => h) (.inr ⟨by rfl, rfl⟩) hS0 ?_
        (simp only [List.setIfInBounds_toArray, List.set_cons_zero, List.set_cons_succ])
        refine anyH_take 11 29 undef rfl rfl (by kernel_rfl) (by kernel_rfl) (by kernel_rfl) (fun _ _ _ h => h) (.inr ⟨by rfl, rfl⟩) hS0 ?_
        (simp only [List.setIfInBounds_toArray, List.set_cons_zero, List.set_cons_succ])
        refine anyH_take 12 30 undef rfl rfl (by kernel_rfl) (by kernel_rfl) (by kernel_rfl) (fun _ _ _ h => h) (.inr ⟨by rfl, rfl⟩) hS0 ?_
        (simp only [List.setIfInBounds_toArray, List.set_cons_zero, List.set_cons_succ])
        refine anyH_take 13 31 undef rfl rfl (by kernel_rfl) (by kernel_rfl) (by kernel_rfl) (fun _ _ _ h => h) (.inr ⟨by rfl, rfl⟩) hS0 ?_
        (simp only [List.setIfInBounds_toArray, List.set_cons_zero, List.set_cons_succ])
        refine anyH_take 14 32 (.bool false) rfl rfl (by kernel_rfl) (by kernel_rfl) (by kernel_rfl) (fun _ _ _ h => h) (.inl ⟨by rfl, fun w'' hS => by go_simp⟩) hS0 ?_
        (simp only [List.setIfInBounds_toArray, List.set_cons_zero, List.set_cons_succ])
        refine anyH_take 15 33 (.bool false) rfl rfl (by kernel_rfl) (by kernel_rfl) (by kernel_rfl) (fun _ _ _ h => h) (.inl ⟨by rfl, fun w'' hS => by go_simp⟩) hS0 ?_
        (simp only [List.setIfInBounds_toArray, List.set_cons_zero, List.set_cons_succ])
        refine anyH_take 16 34 undef rfl rfl (by kernel_rfl) (by kernel_rfl) (by kernel_rfl) (fun _ _ _ h => h) (.inr ⟨by rfl, rfl⟩) hS0 ?_
        (simp only [List.setIfInBounds_toArray, List.set_cons_zero, List.set_cons_succ])
        refine anyH_take 17 35 undef rfl rfl (by kernel_rfl) (by kernel_rfl) (by kernel_rfl) (fun _ _ _ h => h) (.inr ⟨by rfl, rfl⟩) hS0 ?_
        (simp only [List.setIfInBounds_toArray, List.set_cons_zero, List.set_cons_succ])
        refine anyH_take 18 36 undef rfl rfl (by kernel_rfl) (by kernel_rfl) (by kernel_rfl) (fun _ _ _ h => h) (.inr ⟨by rfl, rfl⟩) hS0 ?_
        (simp only [List.setIfInBounds_toArray, List.set_cons_zero, List.set_cons_succ])
        refine anyH_take 19 37 undef rfl rfl (by kernel_rfl) (by kernel_rfl) (by kernel_rfl) (fun _ _ _ h => h) (.inr ⟨by rfl, rfl⟩) hS0 ?_
        (simp only [List.setIfInBounds_toArray, List.set_cons_zero, List.set_cons_succ])
        refine anyH_take 20 38 undef rfl rfl (by kernel_rfl) (by kernel_rfl) (by kernel_rfl) (fun _ _ _ h => h) (.inr ⟨by rfl, rfl⟩) hS0 ?_
        (simp only [List.setIfInBounds_toArray, List.set_cons_zero, List.set_cons_succ])
        refine anyH_take 21 39 (.bool false) rfl rfl (by kernel_rfl) (by kernel_rfl) (by kernel_rfl) (fun _ _ _ h => h) (.inl ⟨by rfl, fun w'' hS => by go_simp⟩) hS0 ?_
        (simp only [List.setIfInBounds_toArray, List.set_cons_zero, List.set_cons_succ])
        refine anyH_take 22 6 (.bool false) rfl rfl (by kernel_rfl) (by kernel_rfl) (by kernel_rfl) (fun _ _ _ h => h) (.inl ⟨by rfl, fun w'' hS => by go_simp⟩) hS0 ?_
        (simp only [List.setIfInBounds_toArray, List.set_cons_zero, List.set_cons_succ])
        refine wpAnyH_done (by kernel_rfl) ?_ _
        have HS2 := Lib.hid hS0
        clear hS0
        go_wp2_with fail
        go_ret
        exact ⟨rfl, HS2.out.1⟩
      | true =>
        rw [h2] at HAS
        have hbs : 1 ≤ xc ∧ xc ≤ (N : Int) := by
          unfold hasB at h2
          simpa using h2
        obtain ⟨m, hm⟩ : ∃ m : Nat, xc = (m : Int) + 1 := ⟨(xc - 1).toNat, by omega⟩
        have hmn : m < N := by omega
        obtain ⟨nm, hnm⟩ : ∃ z, now[m]? = some z := ⟨_, List.getElem?_eq_getElem (by rw [HNN.out.1]; exact hmn)⟩
        have hto : (xc - 1).toNat = m := by omega
        have HM : Hid (xc - 1 = (m : Int) ∧ IntKind.i64.wrap (m : Int) = (m : Int) ∧ wrap64 (m : Int) = (m : Int) ∧ (0 : Int) ≤ (m : Int) ∧ (m : Int) < (N : Int)) := Lib.hid ⟨by omega, wrapI_id (by omega) (by have := HNN.out.2.2; omega), wrap64_in (by omega) (by have := HNN.out.2.2; omega), by omega, by omega⟩
        have HNM : Hid (∀ W, Fr (fun b => b = gl) w W → W.cell? ⟨gN, m, none⟩ = some (.int .i64 nm)) := Lib.hid (fun W f => HRW.out W f m nm hnm)
        have H23 : Hid (hasB N xc = true) := Lib.hid h2
        clear hbs hm hmn h2
        by_cases h3 : xf = nm
        · have Q3 : Hid ((xf == nm) = true) := Lib.hid (by rw [beq_iff_eq]; exact h3)
          have HTO := Lib.hid (And.intro hto (And.intro hnm h3.symm))
          clear hto hnm h3
          cases h4 : leadsS xf xt with
          | false =>
            rw [h4] at HLD
            have H24 := Lib.hid h4
            clear h4
            obtain rfl : r = false := by rw [HR.out]; unfold tellG; rw [HNN.out.1]; simp [h0, h1, H23.out, HTO.out.1, HTO.out.2.1, HTO.out.2.2, H24.out]
            clear h0 h1
            go_enter Try.func84, Try.ntmps84
            go_upto_region 1 with fail
            rw [← HQ.out]
            clear HQ
            go_upto_region 4 with fail
            rw [← HQ2.out]
            clear HQ2
            refine wp_region_held_drew (S := fun w' => Fr (fun b => b = gl) w w' ∧ Fr (fun _ => False) W2 w') (by kernel_rfl) (⟨HW2.out.1.drew, (Fr.refl _ W2).drew⟩) (fun hS0 => ?_)
            refine anyH_take 0 18 (.agg (tkA t (.slice A1 n1 c1) (.slice A2 n2 c2) (.slice A3 n3 c3))) rfl rfl (by kernel_rfl) (by kernel_rfl) (by kernel_rfl) (fun _ _ _ h => h) (yieldsIf_load_mid rfl 27 (.tmp 3) rfl gt 0 rfl (tkA t (.slice A1 n1 c1) (.slice A2 n2 c2) (.slice A3 n3 c3)).toList _ (fun w'' hS => blk_range (HBT.out _ hS.1)) Try.underlying27 rfl infoTk) hS0 ?_
            (simp only [List.setIfInBounds_toArray, List.set_cons_zero, List.set_cons_succ])
            refine anyH_take 1 19 (.pointer (some ⟨w.heap.size, 1, none⟩)) rfl rfl (by kernel_rfl) (by kernel_rfl) (by kernel_rfl) (fun _ _ _ h => h) (.inl ⟨by rfl, fun w'' hS => by go_simp⟩) hS0 ?_
            (simp only [List.setIfInBounds_toArray, List.set_cons_zero, List.set_cons_succ])
            refine anyH_take 2 20 (.int .i64 xc) rfl rfl (by kernel_rfl) (by kernel_rfl) (by kernel_rfl) (fun _ _ _ h => h) (.inl ⟨by rfl, fun w'' hS => by have q0 := (HEV.out _ hS.2).2.1; go_simp⟩) hS0 ?_
            (simp only [List.setIfInBounds_toArray, List.set_cons_zero, List.set_cons_succ])
            refine anyH_one 3 21 (.bool true) (by kernel_rfl) (tame_call 21 rfl rfl (by rfl) (fun w'' hS => by go_simp) (fun w'' hS => ((HAS.out w'' hS.1).mono fun e w3 he => ⟨he.1, hS.1.trans he.2 (fun _ _ q => q.elim), hS.2.trans he.2 (fun _ _ q => q)⟩))) hS0 (fun wq0 hS0 => ?_)
            (simp only [List.setIfInBounds_toArray, List.set_cons_zero, List.set_cons_succ])
            refine anyH_take 4 22 (.bool true) rfl rfl (by kernel_rfl) (by kernel_rfl) (by kernel_rfl) (fun _ _ _ h => h) (.inl ⟨by rfl, fun w'' hS => by go_simp⟩) hS0 ?_
            (simp only [List.setIfInBounds_toArray, List.set_cons_zero, List.set_cons_succ])
            refine anyH_take 5 23 (.pointer (some ⟨w.heap.size, 2, none⟩)) rfl rfl (by kernel_rfl) (by kernel_rfl) (by kernel_rfl) (fun _ _ _ h => h) (.inl ⟨by rfl, fun w'' hS => by go_simp⟩) hS0 ?_
            (simp only [List.setIfInBounds_toArray, List.set_cons_zero, List.set_cons_succ])
            refine anyH_take 6 24 (.int .i64 xf) rfl rfl (by kernel_rfl) (by kernel_rfl) (by kernel_rfl) (fun _ _ _ h => h) (.inl ⟨by rfl, fun w'' hS => by have q0 := (HEV.out _ hS.2).2.2.1; go_simp⟩) hS0 ?_
            (simp only [List.setIfInBounds_toArray, List.set_cons_zero, List.set_cons_succ])
            refine anyH_take 7 25 (.slice (some ⟨gN, 0, none⟩) N cap) rfl rfl (by kernel_rfl) (by kernel_rfl) (by kernel_rfl) (fun _ _ _ h => h) (.inl ⟨by rfl, fun w'' hS => by go_simp⟩) hS0 ?_
            (simp only [List.setIfInBounds_toArray, List.set_cons_zero, List.set_cons_succ])
            refine anyH_take 8 26 (.pointer (some ⟨w.heap.size, 1, none⟩)) rfl rfl (by kernel_rfl) (by kernel_rfl) (by kernel_rfl) (fun _ _ _ h => h) (.inl ⟨by rfl, fun w'' hS => by go_simp⟩) hS0 ?_
            (simp only [List.setIfInBounds_toArray, List.set_cons_zero, List.set_cons_succ])
            refine anyH_take 9 27 (.int .i64 xc) rfl rfl (by kernel_rfl) (by kernel_rfl) (by kernel_rfl) (fun _ _ _ h => h) (.inl ⟨by rfl, fun w'' hS => by have q0 := (HEV.out _ hS.2).2.1; go_simp⟩) hS0 ?_
            (simp only [List.setIfInBounds_toArray, List.set_cons_zero, List.set_cons_succ])
            refine anyH_take 10 28 (.int .i64 (m : Nat)) rfl rfl (by kernel_rfl) (by kernel_rfl) (by kernel_rfl) (fun _ _ _ h => h) (.inl ⟨by rfl, fun w'' hS => by have q0 := HM.out.1; have q1 := HM.out.2.1; have q2 := HM.out.2.2.1; go_simp⟩) hS0 ?_
            (simp only [List.setIfInBounds_toArray, List.set_cons_zero, List.set_cons_succ])
            refine anyH_take 11 29 (.pointer (some ⟨gN, m, none⟩)) rfl rfl (by kernel_rfl) (by kernel_rfl) (by kernel_rfl) (fun _ _ _ h => h) (.inl ⟨by rfl, fun w'' hS => by have q0 := HM.out.2.2.2.1; have q1 := HM.out.2.2.2.2; go_simp⟩) hS0 ?_
            (simp only [List.setIfInBounds_toArray, List.set_cons_zero, List.set_cons_succ])
            refine anyH_take 12 30 (.int .i64 nm) rfl rfl (by kernel_rfl) (by kernel_rfl) (by kernel_rfl) (fun _ _ _ h => h) (.inl ⟨by rfl, fun w'' hS => by have q0 := HNM.out _ hS.1; go_simp⟩) hS0 ?_
            (simp only [List.setIfInBounds_toArray, List.set_cons_zero, List.set_cons_succ])
            refine anyH_take 13 31 (.bool true) rfl rfl (by kernel_rfl) (by kernel_rfl) (by kernel_rfl) (fun _ _ _ h => h) (.inl ⟨by rfl, fun w'' hS => by have q0 := Q3.out; go_simp⟩) hS0 ?_
            (simp only [List.setIfInBounds_toArray, List.set_cons_zero, List.set_cons_succ])
            refine anyH_take 14 32 (.bool true) rfl rfl (by kernel_rfl) (by kernel_rfl) (by kernel_rfl) (fun _ _ _ h => h) (.inl ⟨by rfl, fun w'' hS => by go_simp⟩) hS0 ?_
            (simp only [List.setIfInBounds_toArray, List.set_cons_zero, List.set_cons_succ])
            refine anyH_take 15 33 (.bool true) rfl rfl (by kernel_rfl) (by kernel_rfl) (by kernel_rfl) (fun _ _ _ h => h) (.inl ⟨by rfl, fun w'' hS => by go_simp⟩) hS0 ?_
            (simp only [List.setIfInBounds_toArray, List.set_cons_zero, List.set_cons_succ])
            refine anyH_take 16 34 (.pointer (some ⟨w.heap.size, 2, none⟩)) rfl rfl (by kernel_rfl) (by kernel_rfl) (by kernel_rfl) (fun _ _ _ h => h) (.inl ⟨by rfl, fun w'' hS => by go_simp⟩) hS0 ?_
            (simp only [List.setIfInBounds_toArray, List.set_cons_zero, List.set_cons_succ])
            refine anyH_take 17 35 (.int .i64 xf) rfl rfl (by kernel_rfl) (by kernel_rfl) (by kernel_rfl) (fun _ _ _ h => h) (.inl ⟨by rfl, fun w'' hS => by have q0 := (HEV.out _ hS.2).2.2.1; go_simp⟩) hS0 ?_
            (simp only [List.setIfInBounds_toArray, List.set_cons_zero, List.set_cons_succ])
            refine anyH_take 18 36 (.pointer (some ⟨w.heap.size, 3, none⟩)) rfl rfl (by kernel_rfl) (by kernel_rfl) (by kernel_rfl) (fun _ _ _ h => h) (.inl ⟨by rfl, fun w'' hS => by go_simp⟩) hS0 ?_
            (simp only [List.setIfInBounds_toArray, List.set_cons_zero, List.set_cons_succ])
            refine anyH_take 19 37 (.int .i64 xt) rfl rfl (by kernel_rfl) (by kernel_rfl) (by kernel_rfl) (fun _ _ _ h => h) (.inl ⟨by rfl, fun w'' hS => by have q0 := (HEV.out _ hS.2).2.2.2; go_simp⟩) hS0 ?_
            (simp only [List.setIfInBounds_toArray, List.set_cons_zero, List.set_cons_succ])
            refine anyH_one 20 38 (.bool false) (by kernel_rfl) (tame_call 38 rfl rfl (by rfl) (fun w'' hS => by go_simp) (fun w'' hS => ((HLD.out w'').mono fun e w3 he => ⟨he.1, he.2 ▸ hS⟩))) hS0 (fun wq1 hS0 => ?_)
            (simp only [List.setIfInBounds_toArray, List.set_cons_zero, List.set_cons_succ])
            refine anyH_take 21 39 (.bool false) rfl rfl (by kernel_rfl) (by kernel_rfl) (by kernel_rfl) (fun _ _ _ h => h) (.inl ⟨by rfl, fun w'' hS => by go_simp⟩) hS0 ?_
            (simp only [List.setIfInBounds_toArray, List.set_cons_zero, List.set_cons_succ])
            refine anyH_take 22 6 (.bool false) rfl rfl (by kernel_rfl) (by kernel_rfl) (by kernel_rfl) (fun _ _ _ h => h) (.inl ⟨by rfl, fun w'' hS => by go_simp⟩) hS0 ?_
            (simp only [List.setIfInBounds_toArray, List.set_cons_zero, List.set_cons_succ])
            refine wpAnyH_done (by kernel_rfl) ?_ _
            have HS2 := Lib.hid hS0
            clear hS0
            go_wp2_with fail
            go_ret
            exact ⟨rfl, HS2.out.1⟩
          | true =>
            rw [h4] at HLD
            have H24 := Lib.hid h4
            clear h4
            obtain rfl : r = true := by rw [HR.out]; unfold tellG; rw [HNN.out.1]; simp [h0, h1, H23.out, HTO.out.1, HTO.out.2.1, HTO.out.2.2, H24.out]
            clear h0 h1
            go_enter Try.func84, Try.ntmps84
            go_upto_region 1 with fail
            rw [← HQ.out]
            clear HQ
            go_upto_region 4 with fail
            rw [← HQ2.out]
            clear HQ2
            refine wp_region_held_drew (S := fun w' => Fr (fun b => b = gl) w w' ∧ Fr (fun _ => False) W2 w') (by kernel_rfl) (⟨HW2.out.1.drew, (Fr.refl _ W2).drew⟩) (fun hS0 => ?_)
            refine anyH_take 0 18 (.agg (tkA t (.slice A1 n1 c1) (.slice A2 n2 c2) (.slice A3 n3 c3))) rfl rfl (by kernel_rfl) (by kernel_rfl) (by kernel_rfl) (fun _ _ _ h => h) (yieldsIf_load_mid rfl 27 (.tmp 3) rfl gt 0 rfl (tkA t (.slice A1 n1 c1) (.slice A2 n2 c2) (.slice A3 n3 c3)).toList _ (fun w'' hS => blk_range (HBT.out _ hS.1)) Try.underlying27 rfl infoTk) hS0 ?_
            (simp only [List.setIfInBounds_toArray, List.set_cons_zero, List.set_cons_succ])
            refine anyH_take 1 19 (.pointer (some ⟨w.heap.size, 1, none⟩)) rfl rfl (by kernel_rfl) (by kernel_rfl) (by kernel_rfl) (fun _ _ _ h => h) (.inl ⟨by rfl, fun w'' hS => by go_simp⟩) hS0 ?_
            (simp only [List.setIfInBounds_toArray, List.set_cons_zero, List.set_cons_succ])
            refine anyH_take 2 20 (.int .i64 xc) rfl rfl (by kernel_rfl) (by kernel_rfl) (by kernel_rfl) (fun _ _ _ h => h) (.inl ⟨by rfl, fun w'' hS => by have q0 := (HEV.out _ hS.2).2.1; go_simp⟩) hS0 ?_
            (simp only [List.setIfInBounds_toArray, List.set_cons_zero, List.set_cons_succ])
            refine anyH_one 3 21 (.bool true) (by kernel_rfl) (tame_call 21 rfl rfl (by rfl) (fun w'' hS => by go_simp) (fun w'' hS => ((HAS.out w'' hS.1).mono fun e w3 he => ⟨he.1, hS.1.trans he.2 (fun _ _ q => q.elim), hS.2.trans he.2 (fun _ _ q => q)⟩))) hS0 (fun wq0 hS0 => ?_)
            (simp only [List.setIfInBounds_toArray, List.set_cons_zero, List.set_cons_succ])
            refine anyH_take 4 22 (.bool true) rfl rfl (by kernel_rfl) (by kernel_rfl) (by kernel_rfl) (fun _ _ _ h => h) (.inl ⟨by rfl, fun w'' hS => by go_simp⟩) hS0 ?_
            (simp only [List.setIfInBounds_toArray, List.set_cons_zero, List.set_cons_succ])
            refine anyH_take 5 23 (.pointer (some ⟨w.heap.size, 2, none⟩)) rfl rfl (by kernel_rfl) (by kernel_rfl) (by kernel_rfl) (fun _ _ _ h => h) (.inl ⟨by rfl, fun w'' hS => by go_simp⟩) hS0 ?_
            (simp only [List.setIfInBounds_toArray, List.set_cons_zero, List.set_cons_succ])
            refine anyH_take 6 24 (.int .i64 xf) rfl rfl (by kernel_rfl) (by kernel_rfl) (by kernel_rfl) (fun _ _ _ h => h) (.inl ⟨by rfl, fun w'' hS => by have q0 := (HEV.out _ hS.2).2.2.1; go_simp⟩) hS0 ?_
            (simp only [List.setIfInBounds_toArray, List.set_cons_zero, List.set_cons_succ])
            refine anyH_take 7 25 (.slice (some ⟨gN, 0, none⟩) N cap) rfl rfl (by kernel_rfl) (by kernel_rfl) (by kernel_rfl) (fun _ _ _ h => h) (.inl ⟨by rfl, fun w'' hS => by go_simp⟩) hS0 ?_
            (simp only [List.setIfInBounds_toArray, List.set_cons_zero, List.set_cons_succ])
            refine anyH_take 8 26 (.pointer (some ⟨w.heap.size, 1, none⟩)) rfl rfl (by kernel_rfl) (by kernel_rfl) (by kernel_rfl) (fun _ _ _ h => h) (.inl ⟨by rfl, fun w'' hS => by go_simp⟩) hS0 ?_
            (simp only [List.setIfInBounds_toArray, List.set_cons_zero, List.set_cons_succ])
            refine anyH_take 9 27 (.int .i64 xc) rfl rfl (by kernel_rfl) (by kernel_rfl) (by kernel_rfl) (fun _ _ _ h => h) (.inl ⟨by rfl, fun w'' hS => by have q0 := (HEV.out _ hS.2).2.1; go_simp⟩) hS0 ?_
            (simp only [List.setIfInBounds_toArray, List.set_cons_zero, List.set_cons_succ])
            refine anyH_take 10 28 (.int .i64 (m : Nat)) rfl rfl (by kernel_rfl) (by kernel_rfl) (by kernel_rfl) (fun _ _ _ h => h) (.inl ⟨by rfl, fun w'' hS => by have q0 := HM.out.1; have q1 := HM.out.2.1; have q2 := HM.out.2.2.1; go_simp⟩) hS0 ?_
            (simp only [List.setIfInBounds_toArray, List.set_cons_zero, List.set_cons_succ])
            refine anyH_take 11 29 (.pointer (some ⟨gN, m, none⟩)) rfl rfl (by kernel_rfl) (by kernel_rfl) (by kernel_rfl) (fun _ _ _ h => h) (.inl ⟨by rfl, fun w'' hS => by have q0 := HM.out.2.2.2.1; have q1 := HM.out.2.2.2.2; go_simp⟩) hS0 ?_
            (simp only [List.setIfInBounds_toArray, List.set_cons_zero, List.set_cons_succ])
            refine anyH_take 12 30 (.int .i64 nm) rfl rfl (by kernel_rfl) (by kernel_rfl) (by kernel_rfl) (fun _ _ _ h => h) (.inl ⟨by rfl, fun w'' hS => by have q0 := HNM.out _ hS.1; go_simp⟩) hS0 ?_
            (simp only [List.setIfInBounds_toArray, List.set_cons_zero, List.set_cons_succ])
            refine anyH_take 13 31 (.bool true) rfl rfl (by kernel_rfl) (by kernel_rfl) (by kernel_rfl) (fun _ _ _ h => h) (.inl ⟨by rfl, fun w'' hS => by have q0 := Q3.out; go_simp⟩) hS0 ?_
            (simp only [List.setIfInBounds_toArray, List.set_cons_zero, List.set_cons_succ])
            refine anyH_take 14 32 (.bool true) rfl rfl (by kernel_rfl) (by kernel_rfl) (by kernel_rfl) (fun _ _ _ h => h) (.inl ⟨by rfl, fun w'' hS => by go_simp⟩) hS0 ?_
            (simp only [List.setIfInBounds_toArray, List.set_cons_zero, List.set_cons_succ])
            refine anyH_take 15 33 (.bool true) rfl rfl (by kernel_rfl) (by kernel_rfl) (by kernel_rfl) (fun _ _ _ h => h) (.inl ⟨by rfl, fun w'' hS => by go_simp⟩) hS0 ?_
            (simp only [List.setIfInBounds_toArray, List.set_cons_zero, List.set_cons_succ])
            refine anyH_take 16 34 (.pointer (some ⟨w.heap.size, 2, none⟩)) rfl rfl (by kernel_rfl) (by kernel_rfl) (by kernel_rfl) (fun _ _ _ h => h) (.inl ⟨by rfl, fun w'' hS => by go_simp⟩) hS0 ?_
            (simp only [List.setIfInBounds_toArray, List.set_cons_zero, List.set_cons_succ])
            refine anyH_take 17 35 (.int .i64 xf) rfl rfl (by kernel_rfl) (by kernel_rfl) (by kernel_rfl) (fun _ _ _ h => h) (.inl ⟨by rfl, fun w'' hS => by have q0 := (HEV.out _ hS.2).2.2.1; go_simp⟩) hS0 ?_
            (simp only [List.setIfInBounds_toArray, List.set_cons_zero, List.set_cons_succ])
            refine anyH_take 18 36 (.pointer (some ⟨w.heap.size, 3, none⟩)) rfl rfl (by kernel_rfl) (by kernel_rfl) (by kernel_rfl) (fun _ _ _ h => h) (.inl ⟨by rfl, fun w'' hS => by go_simp⟩) hS0 ?_
            (simp only [List.setIfInBounds_toArray, List.set_cons_zero, List.set_cons_succ])
            refine anyH_take 19 37 (.int .i64 xt) rfl rfl (by kernel_rfl) (by kernel_rfl) (by kernel_rfl) (fun _ _ _ h => h) (.inl ⟨by rfl, fun w'' hS => by have q0 := (HEV.out _ hS.2).2.2.2; go_simp⟩) hS0 ?_
            (simp only [List.setIfInBounds_toArray, List.set_cons_zero, List.set_cons_succ])
            refine anyH_one 20 38 (.bool true) (by kernel_rfl) (tame_call 38 rfl rfl (by rfl) (fun w'' hS => by go_simp) (fun w'' hS => ((HLD.out w'').mono fun e w3 he => ⟨he.1, he.2 ▸ hS⟩))) hS0 (fun wq1 hS0 => ?_)
            (simp only [List.setIfInBounds_toArray, List.set_cons_zero, List.set_cons_succ])
            refine anyH_take 21 39 (.bool true) rfl rfl (by kernel_rfl) (by kernel_rfl) (by kernel_rfl) (fun _ _ _ h => h) (.inl ⟨by rfl, fun w'' hS => by go_simp⟩) hS0 ?_
            (simp only [List.setIfInBounds_toArray, List.set_cons_zero, List.set_cons_succ])
            refine anyH_take 22 6 (.bool true) rfl rfl (by kernel_rfl) (by kernel_rfl) (by kernel_rfl) (fun _ _ _ h => h) (.inl ⟨by rfl, fun w'' hS => by go_simp⟩) hS0 ?_
            (simp only [List.setIfInBounds_toArray, List.set_cons_zero, List.set_cons_succ])
            refine wpAnyH_done (by kernel_rfl) ?_ _
            have HS2 := Lib.hid hS0
            clear hS0
            go_wp2_with fail
            go_ret
            exact ⟨rfl, HS2.out.1, HW2.out.2.1.keep HS2.out.2 (fun q => q)⟩
        · have Q3 : Hid ((xf == nm) = false) := Lib.hid (by rw [beq_eq_false_iff_ne]; exact h3)
          have HTO := Lib.hid (And.intro hto (And.intro hnm (show ¬ nm = xf from fun q => h3 q.symm)))
          clear hto hnm h3
          obtain rfl : r = false := by rw [HR.out]; unfold tellG; rw [HNN.out.1]; simp [HTO.out.1, HTO.out.2.1, HTO.out.2.2]
          clear h0 h1
          go_enter Try.func84, Try.ntmps84
          go_upto_region 1 with fail
          rw [← HQ.out]
          clear HQ
          go_upto_region 4 with fail
          rw [← HQ2.out]
          clear HQ2
          refine wp_region_held_drew (S := fun w' => Fr (fun b => b = gl) w w' ∧ Fr (fun _ => False) W2 w') (by kernel_rfl) (⟨HW2.out.1.drew, (Fr.refl _ W2).drew⟩) (fun hS0 => ?_)
          refine anyH_take 0 18 (.agg (tkA t (.slice A1 n1 c1) (.slice A2 n2 c2) (.slice A3 n3 c3))) rfl rfl (by kernel_rfl) (by kernel_rfl) (by kernel_rfl) (fun _ _ _ h => h) (yieldsIf_load_mid rfl 27 (.tmp 3) rfl gt 0 rfl (tkA t (.slice A1 n1 c1) (.slice A2 n2 c2) (.slice A3 n3 c3)).toList _ (fun w'' hS => blk_range (HBT.out _ hS.1)) Try.underlying27 rfl infoTk) hS0 ?_
          (simp only [List.setIfInBounds_toArray, List.set_cons_zero, List.set_cons_succ])
          refine anyH_take 1 19 (.pointer (some ⟨w.heap.size, 1, none⟩)) rfl rfl (by kernel_rfl) (by kernel_rfl) (by kernel_rfl) (fun _ _ _ h => h) (.inl ⟨by rfl, fun w'' hS => by go_simp⟩) hS0 ?_
          (simp only [List.setIfInBounds_toArray, List.set_cons_zero, List.set_cons_succ])
          refine anyH_take 2 20 (.int .i64 xc) rfl rfl (by kernel_rfl) (by kernel_rfl) (by kernel_rfl) (fun _ _ _ h => h) (.inl ⟨by rfl, fun w'' hS => by have q0 := (HEV.out _ hS.2).2.1; go_simp⟩) hS0 ?_
          (simp only [List.setIfInBounds_toArray, List.set_cons_zero, List.set_cons_succ])
          refine anyH_one 3 21 (.bool true) (by kernel_rfl) (tame_call 21 rfl rfl (by rfl) (fun w'' hS => by go_simp) (fun w'' hS => ((HAS.out w'' hS.1).mono fun e w3 he => ⟨he.1, hS.1.trans he.2 (fun _ _ q => q.elim), hS.2.trans he.2 (fun _ _ q => q)⟩))) hS0 (fun wq0 hS0 => ?_)
          (simp only [List.setIfInBounds_toArray, List.set_cons_zero, List.set_cons_succ])
          refine anyH_take 4 22 (.bool true) rfl rfl (by kernel_rfl) (by kernel_rfl) (by kernel_rfl) (fun _ _ _ h => h) (.inl ⟨by rfl, fun w'' hS => by go_simp⟩) hS0 ?_
          (simp only [List.setIfInBounds_toArray, List.set_cons_zero, List.set_cons_succ])
          refine anyH_take 5 23 (.pointer (some ⟨w.heap.size, 2, none⟩)) rfl rfl (by kernel_rfl) (by kernel_rfl) (by kernel_rfl) (fun _ _ _ h => h) (.inl ⟨by rfl, fun w'' hS => by go_simp⟩) hS0 ?_
          (simp only [List.setIfInBounds_toArray, List.set_cons_zero, List.set_cons_succ])
          refine anyH_take 6 24 (.int .i64 xf) rfl rfl (by kernel_rfl) (by kernel_rfl) (by kernel_rfl) (fun _ _ _ h => h) (.inl ⟨by rfl, fun w'' hS => by have q0 := (HEV.out _ hS.2).2.2.1; go_simp⟩) hS0 ?_
          (simp only [List.setIfInBounds_toArray, List.set_cons_zero, List.set_cons_succ])
          refine anyH_take 7 25 (.slice (some ⟨gN, 0, none⟩) N cap) rfl rfl (by kernel_rfl) (by kernel_rfl) (by kernel_rfl) (fun _ _ _ h => h) (.inl ⟨by rfl, fun w'' hS => by go_simp⟩) hS0 ?_
          (simp only [List.setIfInBounds_toArray, List.set_cons_zero, List.set_cons_succ])
          refine anyH_take 8 26 (.pointer (some ⟨w.heap.size, 1, none⟩)) rfl rfl (by kernel_rfl) (by kernel_rfl) (by kernel_rfl) (fun _ _ _ h => h) (.inl ⟨by rfl, fun w'' hS => by go_simp⟩) hS0 ?_
          (simp only [List.setIfInBounds_toArray, List.set_cons_zero, List.set_cons_succ])
          refine anyH_take 9 27 (.int .i64 xc) rfl rfl (by kernel_rfl) (by kernel_rfl) (by kernel_rfl) (fun _ _ _ h => h) (.inl ⟨by rfl, fun w'' hS => by have q0 := (HEV.out _ hS.2).2.1; go_simp⟩) hS0 ?_
          (simp only [List.setIfInBounds_toArray, List.set_cons_zero, List.set_cons_succ])
          refine anyH_take 10 28 (.int .i64 (m : Nat)) rfl rfl (by kernel_rfl) (by kernel_rfl) (by kernel_rfl) (fun _ _ _ h => h) (.inl ⟨by rfl, fun w'' hS => by have q0 := HM.out.1; have q1 := HM.out.2.1; have q2 := HM.out.2.2.1; go_simp⟩) hS0 ?_
          (simp only [List.setIfInBounds_toArray, List.set_cons_zero, List.set_cons_succ])
          refine anyH_take 11 29 (.pointer (some ⟨gN, m, none⟩)) rfl rfl (by kernel_rfl) (by kernel_rfl) (by kernel_rfl) (fun _ _ _ h => h) (.inl ⟨by rfl, fun w'' hS => by have q0 := HM.out.2.2.2.1; have q1 := HM.out.2.2.2.2; go_simp⟩) hS0 ?_
          (simp only [List.setIfInBounds_toArray, List.set_cons_zero, List.set_cons_succ])
          refine anyH_take 12 30 (.int .i64 nm) rfl rfl (by kernel_rfl) (by kernel_rfl) (by kernel_rfl) (fun _ _ _ h => h) (.inl ⟨by rfl, fun w'' hS => by have q0 := HNM.out _ hS.1; go_simp⟩) hS0 ?_
          (simp only [List.setIfInBounds_toArray, List.set_cons_zero, List.set_cons_succ])
          refine anyH_take 13 31 (.bool false) rfl rfl (by kernel_rfl) (by kernel_rfl) (by kernel_rfl) (fun _ _ _ h => h) (.inl ⟨by rfl, fun w'' hS => by have q0 := Q3.out; go_simp⟩) hS0 ?_
          (simp only [List.setIfInBounds_toArray, List.set_cons_zero, List.set_cons_succ])
          refine anyH_take 14 32 (.bool false) rfl rfl (by kernel_rfl) (by kernel_rfl) (by kernel_rfl) (fun _ _ _ h => h) (.inl ⟨by rfl, fun w'' hS => by go_simp⟩) hS0 ?_
          (simp only [List.setIfInBounds_toArray, List.set_cons_zero, List.set_cons_succ])
          refine anyH_take 15 33 (.bool false) rfl rfl (by kernel_rfl) (by kernel_rfl) (by kernel_rfl) (fun _ _ _ h => h) (.inl ⟨by rfl, fun w'' hS => by go_simp⟩) hS0 ?_
          (simp only [List.setIfInBounds_toArray, List.set_cons_zero, List.set_cons_succ])
          refine anyH_take 16 34 undef rfl rfl (by kernel_rfl) (by kernel_rfl) (by kernel_rfl) (fun _ _ _ h => h) (.inr ⟨by rfl, rfl⟩) hS0 ?_
          (simp only [List.setIfInBounds_toArray, List.set_cons_zero, List.set_cons_succ])
          refine anyH_take 17 35 undef rfl rfl (by kernel_rfl) (by kernel_rfl) (by kernel_rfl) (fun _ _ _ h => h) (.inr ⟨by rfl, rfl⟩) hS0 ?_
          (simp only [List.setIfInBounds_toArray, List.set_cons_zero, List.set_cons_succ])
          refine anyH_take 18 36 undef rfl rfl (by kernel_rfl) (by kernel_rfl) (by kernel_rfl) (fun _ _ _ h => h) (.inr ⟨by rfl, rfl⟩) hS0 ?_
          (simp only [List.setIfInBounds_toArray, List.set_cons_zero, List.set_cons_succ])
          refine anyH_take 19 37 undef rfl rfl (by kernel_rfl) (by kernel_rfl) (by kernel_rfl) (fun _ _ _ h => h) (.inr ⟨by rfl, rfl⟩) hS0 ?_
          (simp only [List.setIfInBounds_toArray, List.set_cons_zero, List.set_cons_succ])
          refine anyH_take 20 38 undef rfl rfl (by kernel_rfl) (by kernel_rfl) (by kernel_rfl) (fun _ _ _ h => h) (.inr ⟨by rfl, rfl⟩) hS0 ?_
          (simp only [List.setIfInBounds_toArray, List.set_cons_zero, List.set_cons_succ])
          refine anyH_take 21 39 (.bool false) rfl rfl (by kernel_rfl) (by kernel_rfl) (by kernel_rfl) (fun _ _ _ h => h) (.inl ⟨by rfl, fun w'' hS => by go_simp⟩) hS0 ?_
          (simp only [List.setIfInBounds_toArray, List.set_cons_zero, List.set_cons_succ])
          refine anyH_take 22 6 (.bool false) rfl rfl (by kernel_rfl) (by kernel_rfl) (by kernel_rfl) (fun _ _ _ h => h) (.inl ⟨by rfl, fun w'' hS => by go_simp⟩) hS0 ?_
          (simp only [List.setIfInBounds_toArray, List.set_cons_zero, List.set_cons_succ])
          refine wpAnyH_done (by kernel_rfl) ?_ _
          have HS2 := Lib.hid hS0
          clear hS0
          go_wp2_with fail
          go_ret
          exact ⟨rfl, HS2.out.1⟩
    · have q1 : 1000000 < xd := by omega
      obtain rfl : r = false := by rw [HR.out]; unfold tellG; simp [h1]
      clear h1
      go_enter Try.func84, Try.ntmps84
      go_upto_region 1 with fail
      rw [← HQ.out]
      clear HQ
      go_wp2_with fail
      go_ret
      first | exact ⟨rfl, HF0.out⟩ | exact ⟨rfl, HF0.out, fun q => by cases q⟩
  · have q0 : xd < d := by omega
    obtain rfl : r = false := by rw [HR.out]; unfold tellG; simp [h0]
    clear h0
    go_enter Try.func84, Try.ntmps84
    go_upto_region 1 with fail
    rw [← HQ.out]
    clear HQ
    go_wp2_with fail
    go_ret
    first | exact ⟨rfl, HF0.out⟩ | exact ⟨rfl, HF0.out, fun q => by cases q⟩
set_option maxRecDepth 100000 in
theorem pat1_any {w : World} (x : EvT) (u : Value) {gl : Nat} {day : Int} (hl : w.cell? ⟨gl, 0, none⟩ = some (.int .i64 day)) :
    Calls Try.prog 59 #[.agg (evC x).toArray, u, .pointer (some ⟨gl, 0, none⟩)] w fun e w' => e = .returned (.bool (decide (x.dy ≤ day))) ∧ Fr (fun _ => False) w w' := by
  obtain ⟨xd, xc, xf, xt⟩ := x
  obtain ⟨W0, hW0⟩ : ∃ W, W = w.alloc (.cells #[.int .i64 xd, .int .i64 xc, .int .i64 xf, .int .i64 xt] 51) := ⟨_, rfl⟩
  have HB : Hid (Fr (fun _ => False) w W0 ∧ Blk W0 w.heap.size 51 #[.int .i64 xd, .int .i64 xc, .int .i64 xf, .int .i64 xt]) := Lib.hid (by rw [hW0]; exact ⟨(Fr.refl _ w).alloc _, Blk.new w _ _⟩)
  have HQ := Lib.hid hW0
  have hq0 : W0.cell? ⟨w.heap.size, 0, none⟩ = some (.int .i64 xd) := cp_cell HB.out.2 0 rfl
  have hql : W0.cell? ⟨gl, 0, none⟩ = some (.int .i64 day) := (HB.out.1.cell (World.block_lt_of_cell? w _ hl) (fun q => q)).trans hl
  clear hl hW0
  show Calls Try.prog 59 #[.agg #[.int .i64 xd, .int .i64 xc, .int .i64 xf, .int .i64 xt], u, .pointer (some ⟨gl, 0, none⟩)] w fun e w' => e = .returned (.bool (decide (xd ≤ day))) ∧ Fr (fun _ => False) w w'
  by_cases h : xd ≤ day
  · rw [decide_eq_true h]
    go_enter Try.func59, Try.ntmps59
    go_upto_region 1 with fail
    rw [← HQ.out]
    clear HQ
    go_wp2_with fail
    go_ret
    exact ⟨rfl, HB.out.1⟩
  · rw [decide_eq_false h]
    go_enter Try.func59, Try.ntmps59
    go_upto_region 1 with fail
    rw [← HQ.out]
    clear HQ
    go_wp2_with fail
    go_ret
    exact ⟨rfl, HB.out.1⟩
end Go.Proofs.Ytmopkfjnjbimnaa
