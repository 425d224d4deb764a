/- disk.leftOf. -/
import Derived.Test.YtiobmejnamdneaaDrg
namespace Go.Proofs.Ytiobmejnamdneaa
open Go.RowKit

/-- What a pick leaves of versions. -/
def pickN (m : Nat) (pick : Int) : Nat := (pick % ((2 * m - 1 : Nat) : Int)).toNat
def leftL (vs : List (List UInt8)) (p : Nat) : List UInt8 := if 0 < p ∧ p % 2 = 0 then tornL (vs.getD ((p + 1) / 2) []) (vs.getD ((p + 1) / 2 - 1) []) else vs.getD ((p + 1) / 2) []

theorem pick_neg {q : Nat} {pick : Int} (hq : 0 < q) (h : pick.tmod (q : Int) < 0) : pick.tmod (q : Int) + (q : Int) = pick % (q : Int) := by
  have h1 := Int.emod_nonneg pick (b := (q : Int)) (by omega)
  have h2 := Int.emod_lt_of_pos pick (b := (q : Int)) (by omega)
  have h3 := Int.tmod_eq_emod (a := pick) (b := (q : Int))
  have h4 : ((q : Int).natAbs : Int) = q := by omega
  split at h3 <;> omega
theorem pick_pos {q : Nat} {pick : Int} (hq : 0 < q) (h : ¬ pick.tmod (q : Int) < 0) : pick.tmod (q : Int) = pick % (q : Int) := by
  have h1 := Int.emod_nonneg pick (b := (q : Int)) (by omega)
  have h2 := Int.emod_lt_of_pos pick (b := (q : Int)) (by omega)
  have h3 := Int.tmod_eq_emod (a := pick) (b := (q : Int))
  have h4 : ((q : Int).natAbs : Int) = q := by omega
  split at h3 <;> omega

set_option maxRecDepth 100000 in
set_option maxHeartbeats 4000000 in
theorem left_any {w : World} {v : Value} {vs : List (List UInt8)} (h : SecV w v vs) (h0 : 0 < vs.length) (hN : vs.length ≤ 1000000) (pick : Int) :
    Calls Try.prog 36 #[v, .int .i64 pick] w fun e w' => e = .returned (av (leftL vs (pickN vs.length pick))) ∧ Fr (fun _ => False) w w' := by
  obtain ⟨A, ca, rfl, h1, h2, h3⟩ := h
  obtain ⟨b, off, rfl, hs⟩ := h3 h0
  obtain ⟨n, hn⟩ : ∃ n, n = vs.length := ⟨_, rfl⟩
  obtain ⟨q, hq⟩ : ∃ q, q = 2 * n - 1 := ⟨_, rfl⟩
  rw [← hn] at h0 hN h1 ⊢
  have hq2 : (2 * (n : Int) - 1) = (q : Int) := by omega
  have hq0 : 0 < q := by omega
  obtain ⟨p, hp⟩ : ∃ p, p = pickN n pick := ⟨_, rfl⟩
  rw [← hp]
  have hpe : pick % (q : Int) = (p : Int) := by
    rw [hp]
    unfold pickN
    rw [← hq]
    have := Int.emod_nonneg pick (b := (q : Int)) (by omega)
    omega
  have hpl : p < q := by
    have := Int.emod_lt_of_pos pick (b := (q : Int)) (by omega)
    omega
  have HQ := Lib.hid (And.intro hq (And.intro hp hn))
  clear hp hq hn
  have HS := Lib.hid hs
  have HB := Lib.hid (And.intro (Blk.new w 31 (cellsB (nought 128)).toArray) ((Fr.refl (fun _ => False) w).alloc (.cells (cellsB (nought 128)).toArray 31)))
  clear hs h3
  rcases Decidable.em (pick.tmod (q : Int) < 0) with hneg | hneg
  · have hpq := pick_neg hq0 hneg
    rw [hpe] at hpq
    go_enter Try.func36, Try.ntmps36
    go_upto_region 5 with (refine wpList_zero rfl 31 rfl zeroSector ?_)
    clear hneg hpq
    generalize w.alloc (.cells (cellsB (nought 128)).toArray 31) = w1 at *
    obtain ⟨j, hj⟩ : ∃ j, j = (p + 1) / 2 := ⟨_, rfl⟩
    have hj2 : ((p : Int) + 1) / 2 = (j : Int) := by omega
    have hi0 : (0 : Int) ≤ (j : Int) := by omega
    have hi1 : (j : Int) < (n : Int) := by have := HQ.out.1; omega
    obtain ⟨x, hx⟩ : ∃ x, vs[j]? = some x := ⟨_, List.getElem?_eq_getElem (by have := HQ.out.2.2; omega)⟩
    by_cases hp0 : (0 : Int) < (p : Int)
    · cases hev : ((p : Int) % 2 == 0) with
      | true =>
        obtain ⟨i, hi⟩ : ∃ i, i + 1 = j := ⟨j - 1, by have : (p : Int) % 2 = 0 := (by simpa using hev); omega⟩
        have hi2 : (j : Int) - 1 = (i : Int) := by omega
        have hi3 : (0 : Int) ≤ (i : Int) := by omega
        have hi4 : (i : Int) < (n : Int) := by omega
        have hwi : IntKind.i64.wrap (i : Int) = (i : Int) := by
          simp [IntKind.wrap, IntKind.signed, IntKind.bits]
          omega
        obtain ⟨y, hy⟩ : ∃ y, vs[i]? = some y := ⟨_, List.getElem?_eq_getElem (by have := HQ.out.2.2; omega)⟩
        have HX := Lib.hid (And.intro (HS.out j x hx).1 (HS.out i y hy).1)
        have HZ : Hid (leftL vs p = tornL x y) := Lib.hid (by
          have hpe : p % 2 = 0 := by have : (p : Int) % 2 = 0 := (by simpa using hev); omega
          unfold leftL
          rw [if_pos ⟨by omega, hpe⟩, ← hj]
          have hji : j - 1 = i := by omega
          rw [hji, List.getD_eq_getElem?_getD, List.getD_eq_getElem?_getD, hx, hy]
          rfl)
        have HC : Hid ((∀ w', Fr (fun _ => False) w w' → w'.rangeAt b (off + j * 128) (cellsB x)) ∧ (∀ w', Fr (fun _ => False) w w' → w'.rangeAt b (off + i * 128) (cellsB y))) := Lib.hid ⟨fun w' f => ((HS.out.keep f (fun q => q)) j x hx).2, fun w' f => ((HS.out.keep f (fun q => q)) i y hy).2⟩
        have hu := Try.underlying31
        have hsx : (Try.prog.info? 31).map (·.size) = some (cellsB x).length := by rw [infoSector, cellsB_len, HX.out.1]
        have hsy : (Try.prog.info? 31).map (·.size) = some (cellsB y).length := by rw [infoSector, cellsB_len, HX.out.2]
        have hcx : (cellsB x).length = 128 := by rw [cellsB_len, HX.out.1]
        have hcy : (cellsB y).length = 128 := by rw [cellsB_len, HX.out.2]
        have hox := cellsB_one x
        have hoy := cellsB_one y
        clear hx hy hi hj
        go_upto_region 7 with fail
        refine wp_region_held_drew (S := fun w' => Fr (fun _ => False) w w' ∧ ∃ y0 : List UInt8, y0.length = 128 ∧ Blk w' w.heap.size 31 (cellsB y0).toArray) (by kernel_rfl) (⟨HB.out.2.drew, nought 128, nought_len _, HB.out.1⟩) (fun hS0 => ?_)
        refine anyH_take 0 29 (.slice (some ⟨b, off, none⟩) n ca) rfl rfl (by kernel_rfl) (by kernel_rfl) (by kernel_rfl) (fun _ _ _ h => h) (.inl ⟨by rfl, fun w'' hS => by go_simp⟩) hS0 ?_
        (simp only [List.setIfInBounds_toArray, List.set_cons_zero, List.set_cons_succ])
        refine anyH_take 1 30 (.int .i64 (j : Nat)) rfl rfl (by kernel_rfl) (by kernel_rfl) (by kernel_rfl) (fun _ _ _ h => h) (.inl ⟨by rfl, fun w'' hS => by go_simp⟩) hS0 ?_
        (simp only [List.setIfInBounds_toArray, List.set_cons_zero, List.set_cons_succ])
        refine anyH_take 2 31 (.pointer (some ⟨b, off + j * 128, none⟩)) rfl rfl (by kernel_rfl) (by kernel_rfl) (by kernel_rfl) (fun _ _ _ h => h) (.inl ⟨by rfl, fun w'' hS => by go_simp⟩) hS0 ?_
        (simp only [List.setIfInBounds_toArray, List.set_cons_zero, List.set_cons_succ])
        refine anyH_take 3 32 (.agg (cellsB x).toArray) rfl rfl (by kernel_rfl) (by kernel_rfl) (by kernel_rfl) (fun _ _ _ h => h) (yieldsIf_load_mid (by rfl) _ _ rfl _ _ rfl _ _ (fun w' f => HC.out.1 w' f.1) hu rfl hsx) hS0 ?_
        (simp only [List.setIfInBounds_toArray, List.set_cons_zero, List.set_cons_succ])
        refine anyH_take 4 33 (.slice (some ⟨b, off, none⟩) n ca) rfl rfl (by kernel_rfl) (by kernel_rfl) (by kernel_rfl) (fun _ _ _ h => h) (.inl ⟨by rfl, fun w'' hS => by go_simp⟩) hS0 ?_
        (simp only [List.setIfInBounds_toArray, List.set_cons_zero, List.set_cons_succ])
        refine anyH_take 5 34 (.int .i64 (j : Nat)) rfl rfl (by kernel_rfl) (by kernel_rfl) (by kernel_rfl) (fun _ _ _ h => h) (.inl ⟨by rfl, fun w'' hS => by go_simp⟩) hS0 ?_
        (simp only [List.setIfInBounds_toArray, List.set_cons_zero, List.set_cons_succ])
        refine anyH_take 6 35 (.int .i64 (i : Nat)) rfl rfl (by kernel_rfl) (by kernel_rfl) (by kernel_rfl) (fun _ _ _ h => h) (.inl ⟨by rfl, fun w'' hS => by go_simp⟩) hS0 ?_
        (simp only [List.setIfInBounds_toArray, List.set_cons_zero, List.set_cons_succ])
        refine anyH_take 7 36 (.pointer (some ⟨b, off + i * 128, none⟩)) rfl rfl (by kernel_rfl) (by kernel_rfl) (by kernel_rfl) (fun _ _ _ h => h) (.inl ⟨by rfl, fun w'' hS => by go_simp⟩) hS0 ?_
        (simp only [List.setIfInBounds_toArray, List.set_cons_zero, List.set_cons_succ])
        refine anyH_take 8 37 (.agg (cellsB y).toArray) rfl rfl (by kernel_rfl) (by kernel_rfl) (by kernel_rfl) (fun _ _ _ h => h) (yieldsIf_load_mid (by rfl) _ _ rfl _ _ rfl _ _ (fun w' f => HC.out.2 w' f.1) hu rfl hsy) hS0 ?_
        (simp only [List.setIfInBounds_toArray, List.set_cons_zero, List.set_cons_succ])
        refine anyH_one 9 38 (av (tornL x y)) (by kernel_rfl) (tame_call 38 rfl rfl (by rfl) (fun w'' hS => by go_simp) (fun w'' hS => ((torn_any w'' HX.out.1 HX.out.2).mono fun e w3 he => ⟨he.1, hS.1.trans he.2 (fun _ _ q => q), hS.2.imp fun y0 h => ⟨h.1, h.2.keep he.2 (fun q => q)⟩⟩))) hS0 (fun w3 hS0 => ?_)
        (simp only [List.setIfInBounds_toArray, List.set_cons_zero, List.set_cons_succ])
        obtain ⟨y0, hl0, hb0⟩ := hS0.2
        have htl := tornL_len HX.out.1 HX.out.2
        have hb := hb0.over (o := 0) (m := tornL x y) (by rw [hl0, htl]; omega)
        rw [patch_all (by rw [hl0, htl])] at hb
        refine anyH_skip 10 _ (by kernel_rfl) rfl rfl (by rfl) (run_store_mid 31 _ _ rfl w.heap.size 0 (cellsB (tornL x y)).toArray rfl rfl (hb0.there (by simp [cellsB_len, hl0, htl])) (by rw [infoSector]; simp [cellsB_len, htl]) (all_oneCell_toArray (cellsB_one _))) ⟨Fr.setCells (.inr (Nat.le_refl _)) hS0.1, _, htl, hb⟩ ?_
        refine wpAnyH_done (by kernel_rfl) ?_ _
        have HE := Lib.hid (And.intro hb (And.intro (Fr.setCells (F := fun _ => False) (vs := (cellsB (tornL x y))) (o := 0) (.inr (Nat.le_refl _)) hS0.1) htl))
        go_wp2_with fail
        refine bodyPost_ret (results_cell_row rfl _ _ w.heap.size 31 (cellsB (tornL x y)).toArray (0, 0) _ rfl HE.out.1 Try.underlying31 rfl (by rw [infoSector]; simp [cellsB_len, HE.out.2.2])) rfl ⟨by rw [HZ.out], HE.out.2.1⟩
      | false =>
        have hno : ¬ (0 < p ∧ p % 2 = 0) := by
          have : ¬ (p : Int) % 2 = 0 := (by simpa using hev); omega
        have HX := Lib.hid (HS.out j x hx).1
        have HZ : Hid (leftL vs p = x) := Lib.hid (by
          unfold leftL
          rw [if_neg hno, ← hj, List.getD_eq_getElem?_getD, hx]
          rfl)
        have HC : Hid (w1.rangeAt b (off + j * 128) (cellsB x)) := Lib.hid ((HS.out.keep HB.out.2 (fun q => q)) j x hx).2
        clear hx hj hno
        go_wp2_with (first
          | (refine wpList_load_mid rfl 31 _ rfl b (off + j * 128) rfl (cellsB x) _ HC.out Try.underlying31 rfl (by rw [infoSector, cellsB_len, HX.out]) ?_)
          | (refine wpList_store_mid rfl 31 _ _ rfl w.heap.size 0 (cellsB x).toArray rfl rfl (HB.out.1.there (by simp [cellsB_len, nought_len, HX.out])) (by rw [infoSector]; simp [cellsB_len, HX.out]) (all_oneCell_toArray (cellsB_one _)) ?_))
        have hb := HB.out.1.over (o := 0) (m := x) (by rw [nought_len, HX.out]; omega)
        rw [patch_all (by rw [nought_len, HX.out])] at hb
        refine bodyPost_ret (results_cell_row rfl _ _ w.heap.size 31 (cellsB x).toArray (0, 0) _ rfl hb Try.underlying31 rfl (by rw [infoSector]; simp [cellsB_len, HX.out])) rfl ⟨by rw [HZ.out], Fr.setCells (.inr (Nat.le_refl _)) HB.out.2⟩
    · have hno : ¬ (0 < p ∧ p % 2 = 0) := by omega
      have hev : True := trivial
      have HX := Lib.hid (HS.out j x hx).1
      have HZ : Hid (leftL vs p = x) := Lib.hid (by
        unfold leftL
        rw [if_neg hno, ← hj, List.getD_eq_getElem?_getD, hx]
        rfl)
      have HC : Hid (w1.rangeAt b (off + j * 128) (cellsB x)) := Lib.hid ((HS.out.keep HB.out.2 (fun q => q)) j x hx).2
      clear hx hj hno
      go_wp2_with (first
        | (refine wpList_load_mid rfl 31 _ rfl b (off + j * 128) rfl (cellsB x) _ HC.out Try.underlying31 rfl (by rw [infoSector, cellsB_len, HX.out]) ?_)
        | (refine wpList_store_mid rfl 31 _ _ rfl w.heap.size 0 (cellsB x).toArray rfl rfl (HB.out.1.there (by simp [cellsB_len, nought_len, HX.out])) (by rw [infoSector]; simp [cellsB_len, HX.out]) (all_oneCell_toArray (cellsB_one _)) ?_))
      have hb := HB.out.1.over (o := 0) (m := x) (by rw [nought_len, HX.out]; omega)
      rw [patch_all (by rw [nought_len, HX.out])] at hb
      refine bodyPost_ret (results_cell_row rfl _ _ w.heap.size 31 (cellsB x).toArray (0, 0) _ rfl hb Try.underlying31 rfl (by rw [infoSector]; simp [cellsB_len, HX.out])) rfl ⟨by rw [HZ.out], Fr.setCells (.inr (Nat.le_refl _)) HB.out.2⟩
  · have hpq := pick_pos hq0 hneg
    rw [hpe] at hpq
    go_enter Try.func36, Try.ntmps36
    go_upto_region 5 with (refine wpList_zero rfl 31 rfl zeroSector ?_)
    clear hneg hpq
    generalize w.alloc (.cells (cellsB (nought 128)).toArray 31) = w1 at *
    obtain ⟨j, hj⟩ : ∃ j, j = (p + 1) / 2 := ⟨_, rfl⟩
    have hj2 : ((p : Int) + 1) / 2 = (j : Int) := by omega
    have hi0 : (0 : Int) ≤ (j : Int) := by omega
    have hi1 : (j : Int) < (n : Int) := by have := HQ.out.1; omega
    obtain ⟨x, hx⟩ : ∃ x, vs[j]? = some x := ⟨_, List.getElem?_eq_getElem (by have := HQ.out.2.2; omega)⟩
    by_cases hp0 : (0 : Int) < (p : Int)
    · cases hev : ((p : Int) % 2 == 0) with
      | true =>
        obtain ⟨i, hi⟩ : ∃ i, i + 1 = j := ⟨j - 1, by have : (p : Int) % 2 = 0 := (by simpa using hev); omega⟩
        have hi2 : (j : Int) - 1 = (i : Int) := by omega
        have hi3 : (0 : Int) ≤ (i : Int) := by omega
        have hi4 : (i : Int) < (n : Int) := by omega
        have hwi : IntKind.i64.wrap (i : Int) = (i : Int) := by
          simp [IntKind.wrap, IntKind.signed, IntKind.bits]
          omega
        obtain ⟨y, hy⟩ : ∃ y, vs[i]? = some y := ⟨_, List.getElem?_eq_getElem (by have := HQ.out.2.2; omega)⟩
        have HX := Lib.hid (And.intro (HS.out j x hx).1 (HS.out i y hy).1)
        have HZ : Hid (leftL vs p = tornL x y) := Lib.hid (by
          have hpe : p % 2 = 0 := by have : (p : Int) % 2 = 0 := (by simpa using hev); omega
          unfold leftL
          rw [if_pos ⟨by omega, hpe⟩, ← hj]
          have hji : j - 1 = i := by omega
          rw [hji, List.getD_eq_getElem?_getD, List.getD_eq_getElem?_getD, hx, hy]
          rfl)
        have HC : Hid ((∀ w', Fr (fun _ => False) w w' → w'.rangeAt b (off + j * 128) (cellsB x)) ∧ (∀ w', Fr (fun _ => False) w w' → w'.rangeAt b (off + i * 128) (cellsB y))) := Lib.hid ⟨fun w' f => ((HS.out.keep f (fun q => q)) j x hx).2, fun w' f => ((HS.out.keep f (fun q => q)) i y hy).2⟩
        have hu := Try.underlying31
        have hsx : (Try.prog.info? 31).map (·.size) = some (cellsB x).length := by rw [infoSector, cellsB_len, HX.out.1]
        have hsy : (Try.prog.info? 31).map (·.size) = some (cellsB y).length := by rw [infoSector, cellsB_len, HX.out.2]
        have hcx : (cellsB x).length = 128 := by rw [cellsB_len, HX.out.1]
        have hcy : (cellsB y).length = 128 := by rw [cellsB_len, HX.out.2]
        have hox := cellsB_one x
        have hoy := cellsB_one y
        clear hx hy hi hj
        go_upto_region 7 with fail
        refine wp_region_held_drew (S := fun w' => Fr (fun _ => False) w w' ∧ ∃ y0 : List UInt8, y0.length = 128 ∧ Blk w' w.heap.size 31 (cellsB y0).toArray) (by kernel_rfl) (⟨HB.out.2.drew, nought 128, nought_len _, HB.out.1⟩) (fun hS0 => ?_)
        refine anyH_take 0 29 (.slice (some ⟨b, off, none⟩) n ca) rfl rfl (by kernel_rfl) (by kernel_rfl) (by kernel_rfl) (fun _ _ _ h => h) (.inl ⟨by rfl, fun w'' hS => by go_simp⟩) hS0 ?_
        (simp only [List.setIfInBounds_toArray, List.set_cons_zero, List.set_cons_succ])
        refine anyH_take 1 30 (.int .i64 (j : Nat)) rfl rfl (by kernel_rfl) (by kernel_rfl) (by kernel_rfl) (fun _ _ _ h => h) (.inl ⟨by rfl, fun w'' hS => by go_simp⟩) hS0 ?_
        (simp only [List.setIfInBounds_toArray, List.set_cons_zero, List.set_cons_succ])
        refine anyH_take 2 31 (.pointer (some ⟨b, off + j * 128, none⟩)) rfl rfl (by kernel_rfl) (by kernel_rfl) (by kernel_rfl) (fun _ _ _ h => h) (.inl ⟨by rfl, fun w'' hS => by go_simp⟩) hS0 ?_
        (simp only [List.setIfInBounds_toArray, List.set_cons_zero, List.set_cons_succ])
        refine anyH_take 3 32 (.agg (cellsB x).toArray) rfl rfl (by kernel_rfl) (by kernel_rfl) (by kernel_rfl) (fun _ _ _ h => h) (yieldsIf_load_mid (by rfl) _ _ rfl _ _ rfl _ _ (fun w' f => HC.out.1 w' f.1) hu rfl hsx) hS0 ?_
        (simp only [List.setIfInBounds_toArray, List.set_cons_zero, List.set_cons_succ])
        refine anyH_take 4 33 (.slice (some ⟨b, off, none⟩) n ca) rfl rfl (by kernel_rfl) (by kernel_rfl) (by kernel_rfl) (fun _ _ _ h => h) (.inl ⟨by rfl, fun w'' hS => by go_simp⟩) hS0 ?_
        (simp only [List.setIfInBounds_toArray, List.set_cons_zero, List.set_cons_succ])
        refine anyH_take 5 34 (.int .i64 (j : Nat)) rfl rfl (by kernel_rfl) (by kernel_rfl) (by kernel_rfl) (fun _ _ _ h => h) (.inl ⟨by rfl, fun w'' hS => by go_simp⟩) hS0 ?_
        (simp only [List.setIfInBounds_toArray, List.set_cons_zero, List.set_cons_succ])
        refine anyH_take 6 35 (.int .i64 (i : Nat)) rfl rfl (by kernel_rfl) (by kernel_rfl) (by kernel_rfl) (fun _ _ _ h => h) (.inl ⟨by rfl, fun w'' hS => by go_simp⟩) hS0 ?_
        (simp only [List.setIfInBounds_toArray, List.set_cons_zero, List.set_cons_succ])
        refine anyH_take 7 36 (.pointer (some ⟨b, off + i * 128, none⟩)) rfl rfl (by kernel_rfl) (by kernel_rfl) (by kernel_rfl) (fun _ _ _ h => h) (.inl ⟨by rfl, fun w'' hS => by go_simp⟩) hS0 ?_
        (simp only [List.setIfInBounds_toArray, List.set_cons_zero, List.set_cons_succ])
        refine anyH_take 8 37 (.agg (cellsB y).toArray) rfl rfl (by kernel_rfl) (by kernel_rfl) (by kernel_rfl) (fun _ _ _ h => h) (yieldsIf_load_mid (by rfl) _ _ rfl _ _ rfl _ _ (fun w' f => HC.out.2 w' f.1) hu rfl hsy) hS0 ?_
        (simp only [List.setIfInBounds_toArray, List.set_cons_zero, List.set_cons_succ])
        refine anyH_one 9 38 (av (tornL x y)) (by kernel_rfl) (tame_call 38 rfl rfl (by rfl) (fun w'' hS => by go_simp) (fun w'' hS => ((torn_any w'' HX.out.1 HX.out.2).mono fun e w3 he => ⟨he.1, hS.1.trans he.2 (fun _ _ q => q), hS.2.imp fun y0 h => ⟨h.1, h.2.keep he.2 (fun q => q)⟩⟩))) hS0 (fun w3 hS0 => ?_)
        (simp only [List.setIfInBounds_toArray, List.set_cons_zero, List.set_cons_succ])
        obtain ⟨y0, hl0, hb0⟩ := hS0.2
        have htl := tornL_len HX.out.1 HX.out.2
        have hb := hb0.over (o := 0) (m := tornL x y) (by rw [hl0, htl]; omega)
        rw [patch_all (by rw [hl0, htl])] at hb
        refine anyH_skip 10 _ (by kernel_rfl) rfl rfl (by rfl) (run_store_mid 31 _ _ rfl w.heap.size 0 (cellsB (tornL x y)).toArray rfl rfl (hb0.there (by simp [cellsB_len, hl0, htl])) (by rw [infoSector]; simp [cellsB_len, htl]) (all_oneCell_toArray (cellsB_one _))) ⟨Fr.setCells (.inr (Nat.le_refl _)) hS0.1, _, htl, hb⟩ ?_
        refine wpAnyH_done (by kernel_rfl) ?_ _
        have HE := Lib.hid (And.intro hb (And.intro (Fr.setCells (F := fun _ => False) (vs := (cellsB (tornL x y))) (o := 0) (.inr (Nat.le_refl _)) hS0.1) htl))
        go_wp2_with fail
        refine bodyPost_ret (results_cell_row rfl _ _ w.heap.size 31 (cellsB (tornL x y)).toArray (0, 0) _ rfl HE.out.1 Try.underlying31 rfl (by rw [infoSector]; simp [cellsB_len, HE.out.2.2])) rfl ⟨by rw [HZ.out], HE.out.2.1⟩
      | false =>
        have hno : ¬ (0 < p ∧ p % 2 = 0) := by
          have : ¬ (p : Int) % 2 = 0 := (by simpa using hev); omega
        have HX := Lib.hid (HS.out j x hx).1
        have HZ : Hid (leftL vs p = x) := Lib.hid (by
          unfold leftL
          rw [if_neg hno, ← hj, List.getD_eq_getElem?_getD, hx]
          rfl)
        have HC : Hid (w1.rangeAt b (off + j * 128) (cellsB x)) := Lib.hid ((HS.out.keep HB.out.2 (fun q => q)) j x hx).2
        clear hx hj hno
        go_wp2_with (first
          | (refine wpList_load_mid rfl 31 _ rfl b (off + j * 128) rfl (cellsB x) _ HC.out Try.underlying31 rfl (by rw [infoSector, cellsB_len, HX.out]) ?_)
          | (refine wpList_store_mid rfl 31 _ _ rfl w.heap.size 0 (cellsB x).toArray rfl rfl (HB.out.1.there (by simp [cellsB_len, nought_len, HX.out])) (by rw [infoSector]; simp [cellsB_len, HX.out]) (all_oneCell_toArray (cellsB_one _)) ?_))
        have hb := HB.out.1.over (o := 0) (m := x) (by rw [nought_len, HX.out]; omega)
        rw [patch_all (by rw [nought_len, HX.out])] at hb
        refine bodyPost_ret (results_cell_row rfl _ _ w.heap.size 31 (cellsB x).toArray (0, 0) _ rfl hb Try.underlying31 rfl (by rw [infoSector]; simp [cellsB_len, HX.out])) rfl ⟨by rw [HZ.out], Fr.setCells (.inr (Nat.le_refl _)) HB.out.2⟩
    · have hno : ¬ (0 < p ∧ p % 2 = 0) := by omega
      have hev : True := trivial
      have HX := Lib.hid (HS.out j x hx).1
      have HZ : Hid (leftL vs p = x) := Lib.hid (by
        unfold leftL
        rw [if_neg hno, ← hj, List.getD_eq_getElem?_getD, hx]
        rfl)
      have HC : Hid (w1.rangeAt b (off + j * 128) (cellsB x)) := Lib.hid ((HS.out.keep HB.out.2 (fun q => q)) j x hx).2
      clear hx hj hno
      go_wp2_with (first
        | (refine wpList_load_mid rfl 31 _ rfl b (off + j * 128) rfl (cellsB x) _ HC.out Try.underlying31 rfl (by rw [infoSector, cellsB_len, HX.out]) ?_)
        | (refine wpList_store_mid rfl 31 _ _ rfl w.heap.size 0 (cellsB x).toArray rfl rfl (HB.out.1.there (by simp [cellsB_len, nought_len, HX.out])) (by rw [infoSector]; simp [cellsB_len, HX.out]) (all_oneCell_toArray (cellsB_one _)) ?_))
      have hb := HB.out.1.over (o := 0) (m := x) (by rw [nought_len, HX.out]; omega)
      rw [patch_all (by rw [nought_len, HX.out])] at hb
      refine bodyPost_ret (results_cell_row rfl _ _ w.heap.size 31 (cellsB x).toArray (0, 0) _ rfl hb Try.underlying31 rfl (by rw [infoSector]; simp [cellsB_len, HX.out])) rfl ⟨by rw [HZ.out], Fr.setCells (.inr (Nat.le_refl _)) HB.out.2⟩
end Go.Proofs.Ytiobmejnamdneaa
