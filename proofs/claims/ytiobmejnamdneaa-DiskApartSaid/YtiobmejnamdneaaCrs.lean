/- The program's disk: Crash. -/
import Derived.Test.YtiobmejnamdneaaCrp
namespace Go.Proofs.Ytiobmejnamdneaa
open Go.RowKit Go.Maps

theorem patch_twice {l m : List UInt8} {o : Nat} (h : o + m.length ≤ l.length) : patch (patch l o m) o m = patch l o m := by
  have h1 : (l.take o).length = o := by rw [List.length_take]; omega
  have e1 : (patch l o m).take o = l.take o := by unfold patch; exact List.take_left' h1
  have e2 : (patch l o m).drop (o + m.length) = l.drop (o + m.length) := by
    unfold patch
    rw [← List.append_assoc]
    exact List.drop_left' (by rw [List.length_append, h1])
  have e3 : patch (patch l o m) o m = (patch l o m).take o ++ (m ++ (patch l o m).drop (o + m.length)) := rfl
  rw [e3, e1, e2]
  rfl
theorem leftL_len {vs : List (List UInt8)} (h : ∀ x ∈ vs, x.length = 128) (h0 : 0 < vs.length) (pick : Int) : (leftL vs (pickN vs.length pick)).length = 128 := by
  have hp : pickN vs.length pick < 2 * vs.length - 1 := by
    unfold pickN
    have h1 := Int.emod_nonneg pick (b := ((2 * vs.length - 1 : Nat) : Int)) (by omega)
    have h2 := Int.emod_lt_of_pos pick (b := ((2 * vs.length - 1 : Nat) : Int)) (by omega)
    omega
  generalize pickN vs.length pick = p at hp
  have hg : ∀ j, j < vs.length → (vs.getD j []).length = 128 := fun j hj => by
    rw [List.getD_eq_getElem?_getD, List.getElem?_eq_getElem hj]
    exact h _ (List.getElem_mem hj)
  unfold leftL
  split
  · exact tornL_len (hg _ (by omega)) (hg _ (by omega))
  · exact hg _ (by omega)
section
variable {w : World} {F : Nat → Prop} {g R M : Nat} {D : DataW Value} {val : Nat → Value} {d : DS}
set_option maxRecDepth 100000 in
set_option maxHeartbeats 4000000 in
theorem dcrash_pos (h : DiskW w F g R M D val d) {vp : Value} {picks : List Int} (hp : IntsAt w vp picks) (hpF : ∀ b, vp.ownBlock = some b → 0 < picks.length → b ≠ R ∧ b ≠ M) (hvl : ∀ i, i < d.rd.length → (d.vs i).length ≤ 1000000) :
    Calls Try.prog 18 #[.pointer (some ⟨g, 0, none⟩), vp] w fun e w' => e = .returned (.int .i64 0) ∧ (∃ D', DiskW w' F g R M D' val (d.crash picks)) ∧ Fr F w w' := by
  have HH := none_in h
  have HO := open_any h
  obtain ⟨Ap, cp, hvp, hpl, hpc⟩ := hp
  subst hvp
  have HP := Lib.hid (And.intro hpF (And.intro hvl hpc))
  have h6 := Lib.hid h
  have hpl' : picks.length ≤ 9223372036854775807 := by simp only [maxLen] at hpl; omega
  clear h hpF hvl hpc hpl
  go_enter Try.func18, Try.ntmps18
  go_wp2_with (go_at_call 27; refine HH.mono ?_; rintro e w' ⟨rfl, rfl⟩)
  refine HO.mono ?_
  rintro e w1 ⟨vo, rfl, hrow, f1⟩
  have hz : (asZ d.openL).length = d.openL.length := by simp
  rw [← hz] at hrow
  have hoi := IntsAt.own hrow
  have hob : ∀ b, vo.ownBlock = some b → w.heap.size ≤ b := fun b hb => by
    rcases hrow.2 with ⟨q, _⟩ | ⟨b', _, _, q, hb', _⟩
    · rw [q] at hb; simp [Value.ownBlock] at hb
    · rw [q] at hb
      have : b' = b := by simpa [Value.ownBlock] using hb
      omega
  obtain ⟨Ao, co, hvo, hol, hoc⟩ := hoi
  subst hvo
  obtain ⟨n, hn⟩ : ∃ n, n = d.openL.length := ⟨_, rfl⟩
  rw [hz, ← hn] at hol hoc ⊢
  have hn8 : n ≤ 8192 := by
    have := h6.out.n1
    have e : d.openL.length ≤ (List.range d.rd.length).length := List.length_filter_le _ _
    rw [List.length_range] at e
    omega
  have h61 : DiskW w1 F g R M D val d := h6.out.keep f1 (fun _ _ q => q)
  have HO1 := Lib.hid (And.intro hn (And.intro hoc (And.intro hob f1)))
  clear hrow hz hol hoc hob hn HO HH
  go_wp2_with fail
  go_loopw [13] (fun x wr => ∃ k : Nat, x = .int .i64 k ∧ k ≤ n ∧ Hid (∃ Dk, DiskW wr F g R M Dk val (d.falls ((d.pairs picks).take k))) ∧ Hid (Fr (fun b => b = R ∨ b = M) w1 wr)) (fun x _ => n - (intOf x).toNat)
  case atStart => exact ⟨0, rfl, Nat.zero_le _, Lib.hid ⟨D, h61⟩, Lib.hid (Fr.refl _ _)⟩
  case round =>
    obtain ⟨k, rfl, hk, HDe, HF⟩ := hrel
    obtain ⟨Dk, hDk⟩ := HDe.out
    clear HDe h61
    by_cases hlt : k < n
    · obtain ⟨i, hi⟩ : ∃ i, d.openL[k]? = some i := ⟨_, List.getElem?_eq_getElem (by have := HO1.out.1; omega)⟩
      obtain ⟨pick, hpk⟩ : ∃ pick, pick = (picks[k]?).getD 0 := ⟨_, rfl⟩
      have hkl : k < d.openL.length := by have := HO1.out.1; omega
      have hie : d.openL[k] = i := by rw [List.getElem?_eq_getElem hkl] at hi; injection hi
      obtain ⟨hin, hiv⟩ := DS.openL_mem.1 (hie ▸ List.getElem_mem hkl : i ∈ d.openL)
      have hvs : (d.falls ((d.pairs picks).take k)).vs i = d.vs i := by
        have := falls_next d picks hkl
        rwa [hie] at this
      have hnx : d.falls ((d.pairs picks).take (k + 1)) = (d.falls ((d.pairs picks).take k)).left1 (i, pick) := by
        rw [List.take_add_one, pairs_at d picks hkl, hie, ← hpk]
        exact falls_snoc _ _ _
      have hln : (d.falls ((d.pairs picks).take k)).rd.length = d.rd.length := falls_len _ _
      obtain ⟨dk, hdk⟩ : ∃ dk, dk = d.falls ((d.pairs picks).take k) := ⟨_, rfl⟩
      rw [← hdk] at hDk hvs hnx hln
      have hidk : i < dk.rd.length := by omega
      have hivk : dk.vs i ≠ [] := by rw [hvs]; exact hiv
      have hvl : 0 < (dk.vs i).length := List.length_pos_iff.2 hivk
      obtain ⟨z, hz⟩ : ∃ z, z = leftL (dk.vs i) (pickN (dk.vs i).length pick) := ⟨_, rfl⟩
      have HZL : Hid (z.length = 128) := Lib.hid (hz ▸ leftL_len (hDk.all i hidk) hvl pick)
      have HPK : Hid (0 < (dk.vs i).length ∧ (dk.vs i).length ≤ 1000000 ∧ leftL (dk.vs i) (pickN (dk.vs i).length pick) = z) := Lib.hid ⟨hvl, by rw [hvs]; exact HP.out.2.1 i hin, hz.symm⟩
      have HNX : Hid (dk.fall i z = d.falls ((d.pairs picks).take (k + 1))) := Lib.hid (by rw [hnx, hz]; rfl)
      have HI : Hid (i < dk.rd.length ∧ i * 128 + 128 ≤ (dk.rd.flatten ++ dk.sp).length ∧ patch (dk.rd.flatten ++ dk.sp) (i * 128) z = (dk.rd.set i z).flatten ++ dk.sp) := Lib.hid ⟨hidk, by rw [List.length_append, flat_len hDk.hl]; omega, by rw [patch_app (by rw [HZL.out, flat_len hDk.hl]; omega), flat_set hDk.hl HZL.out hidk]⟩
      obtain ⟨vi, hvi⟩ : ∃ vi, vi = val i := ⟨_, rfl⟩
      have HSV : Hid (∀ w', Fr (fun b => b = R) wr w' → SecV w' vi (dk.vs i)) := Lib.hid fun w' f => by
        rw [hvi]
        exact secV_row (own_keep (hDk.row i hidk hivk) f (fun b hb e => (hDk.own i b hidk hivk hb).2.2.1 e)) (hDk.all i hidk)
      have HKY : Hid (keyOf Try.prog 3 (.int .i64 (i : Int)) = some (ky i)) := Lib.hid (ky_of (by have := hDk.n1; omega))
      have HLK : Hid (∀ w', Fr (fun b => b = R) wr w' → (Instr.lookup 61 (.map (some M)) (.int .i64 (i : Int)) false).run Try.prog w' = .ok vi w') := Lib.hid fun w' f => by
        obtain ⟨v1, ps1, hrun1, hv1⟩ := (map_keep hDk.map f (fun e => hDk.rM e.symm)).lookup kyT Try.underlying61 (zeroSl _) (zd := .held (.slice none 0 0)) (zp := []) rfl HKY.out
        rw [hDk.at_ i hidk hivk] at hv1
        simp only [Option.some.injEq, Prod.mk.injEq, DataW.held.injEq] at hv1
        rw [hvi, ← hv1.1]
        exact hrun1
      have HDW := Lib.hid hDk
      have HK : Hid (k < n ∧ n ≤ 8192) := Lib.hid ⟨hlt, hn8⟩
      obtain ⟨bo, oo, hao, hoc⟩ := HO1.out.2.1 (by omega)
      subst hao
      have hco : wr.cell? ⟨bo, oo + k, none⟩ = some (.int .i64 (i : Int)) := by
        have h1 := hoc k (i : Int) (by simp [hi])
        refine (HF.out.cell (World.block_lt_of_cell? w1 _ h1) ?_).trans h1
        have q0 := HO1.out.2.2.1 bo rfl
        have q1 := h6.out.lt
        rintro (q | q)
        · have q' : bo = R := q
          omega
        · have q' : bo = M := q
          omega
      have hu := Try.underlying31
      have hk0 : (0 : Int) ≤ (k : Int) := by omega
      have hkn : (k : Int) < (n : Int) := by omega
      have hi0 : (0 : Int) ≤ (i : Int) := by omega
      have hi1 : (i : Int) < (dk.rd.length : Int) := by omega
      have hsz := infoSector
      by_cases hkp : (k : Int) < (picks.length : Int)
      · obtain ⟨bp, op, hap, hpc⟩ := HP.out.2.2 (by omega)
        subst hap
        have hcp : wr.cell? ⟨bp, op + k, none⟩ = some (.int .i64 pick) := by
          have h1 := hpc k pick (by rw [hpk, List.getElem?_eq_getElem (by omega)]; rfl)
          have h2 := (HO1.out.2.2.2.cell (World.block_lt_of_cell? w _ h1) (fun q => q)).trans h1
          refine (HF.out.cell (World.block_lt_of_cell? w1 _ h2) ?_).trans h2
          rintro (q | q)
          · exact (HP.out.1 bp rfl (by omega)).1 q
          · exact (HP.out.1 bp rfl (by omega)).2 q
        clear hi hpk hkl hie hin hiv hvs hnx hln hdk hidk hivk hvl hz hvi hDk hoc hpc hsz
        go_wp2_with fail
        refine wp_region_held_drew (S := fun w' => Fr (fun b => b = R) wr w' ∧ ∃ L, Blk w' R 31 (cellsB L).toArray ∧ i * 128 + 128 ≤ L.length ∧ patch L (i * 128) z = (dk.rd.set i z).flatten ++ dk.sp) (by kernel_rfl) (⟨(Fr.refl _ _).drew, dk.rd.flatten ++ dk.sp, HDW.out.red, HI.out.2.1, HI.out.2.2⟩) (fun hS0 => ?_)
        refine anyH_take 0 26 (.pointer (some ⟨g, 0, none⟩)) rfl rfl (by kernel_rfl) (by kernel_rfl) (by kernel_rfl) (fun _ _ _ h => h) (.inl ⟨by rfl, fun w'' hS => by go_simp⟩) hS0 ?_
        (simp only [List.setIfInBounds_toArray, List.set_cons_zero, List.set_cons_succ])
        refine anyH_take 1 27 (.pointer (some ⟨g, 0, none⟩)) rfl rfl (by kernel_rfl) (by kernel_rfl) (by kernel_rfl) (fun _ _ _ h => h) (.inl ⟨by rfl, fun w'' hS => by go_simp⟩) hS0 ?_
        (simp only [List.setIfInBounds_toArray, List.set_cons_zero, List.set_cons_succ])
        refine anyH_take 2 28 (.pointer (some ⟨g, 0, none⟩)) rfl rfl (by kernel_rfl) (by kernel_rfl) (by kernel_rfl) (fun _ _ _ h => h) (.inl ⟨by rfl, fun w'' hS => by go_simp⟩) hS0 ?_
        (simp only [List.setIfInBounds_toArray, List.set_cons_zero, List.set_cons_succ])
        refine anyH_take 3 29 (.slice (some ⟨R, 0, none⟩) dk.rd.length dk.cp) rfl rfl (by kernel_rfl) (by kernel_rfl) (by kernel_rfl) (fun _ _ _ h => h) (.inl ⟨by rfl, fun w'' hS => by have q0 := (hS.1.cell (p := ⟨g, 0, none⟩) HDW.out.lt.1 HDW.out.gR).trans (dsk_cells HDW.out.blk).1; go_simp⟩) hS0 ?_
        (simp only [List.setIfInBounds_toArray, List.set_cons_zero, List.set_cons_succ])
        refine anyH_take 4 30 (.int .i64 (i : Nat)) rfl rfl (by kernel_rfl) (by kernel_rfl) (by kernel_rfl) (fun _ _ _ h => h) (.inl ⟨by rfl, fun w'' hS => by go_simp⟩) hS0 ?_
        (simp only [List.setIfInBounds_toArray, List.set_cons_zero, List.set_cons_succ])
        refine anyH_take 5 31 (.pointer (some ⟨g, 0, none⟩)) rfl rfl (by kernel_rfl) (by kernel_rfl) (by kernel_rfl) (fun _ _ _ h => h) (.inl ⟨by rfl, fun w'' hS => by go_simp⟩) hS0 ?_
        (simp only [List.setIfInBounds_toArray, List.set_cons_zero, List.set_cons_succ])
        refine anyH_take 6 32 (.pointer (some ⟨g, 0, none⟩)) rfl rfl (by kernel_rfl) (by kernel_rfl) (by kernel_rfl) (fun _ _ _ h => h) (.inl ⟨by rfl, fun w'' hS => by go_simp⟩) hS0 ?_
        (simp only [List.setIfInBounds_toArray, List.set_cons_zero, List.set_cons_succ])
        refine anyH_take 7 33 (.pointer (some ⟨g, 1, none⟩)) rfl rfl (by kernel_rfl) (by kernel_rfl) (by kernel_rfl) (fun _ _ _ h => h) (.inl ⟨by rfl, fun w'' hS => by go_simp⟩) hS0 ?_
        (simp only [List.setIfInBounds_toArray, List.set_cons_zero, List.set_cons_succ])
        refine anyH_take 8 34 (.map (some M)) rfl rfl (by kernel_rfl) (by kernel_rfl) (by kernel_rfl) (fun _ _ _ h => h) (.inl ⟨by rfl, fun w'' hS => by have q0 := (hS.1.cell (p := ⟨g, 1, none⟩) HDW.out.lt.1 HDW.out.gR).trans (dsk_cells HDW.out.blk).2.1; go_simp⟩) hS0 ?_
        (simp only [List.setIfInBounds_toArray, List.set_cons_zero, List.set_cons_succ])
        refine anyH_take 9 35 (.int .i64 (i : Nat)) rfl rfl (by kernel_rfl) (by kernel_rfl) (by kernel_rfl) (fun _ _ _ h => h) (.inl ⟨by rfl, fun w'' hS => by go_simp⟩) hS0 ?_
        (simp only [List.setIfInBounds_toArray, List.set_cons_zero, List.set_cons_succ])
        refine anyH_take 10 36 vi rfl rfl (by kernel_rfl) (by kernel_rfl) (by kernel_rfl) (fun _ _ _ h => h) (.inl ⟨by rfl, fun w'' hS => by have q0 := HLK.out w'' hS.1; go_simp⟩) hS0 ?_
        (simp only [List.setIfInBounds_toArray, List.set_cons_zero, List.set_cons_succ])
        refine anyH_take 11 37 (.int .i64 pick) rfl rfl (by kernel_rfl) (by kernel_rfl) (by kernel_rfl) (fun _ _ _ h => h) (.inl ⟨by rfl, fun w'' hS => by go_simp⟩) hS0 ?_
        (simp only [List.setIfInBounds_toArray, List.set_cons_zero, List.set_cons_succ])
        refine anyH_one 12 38 (av z) (by kernel_rfl) (tame_call 38 rfl rfl (by rfl) (fun w'' hS => by go_simp) (fun w'' hS => ((left_any (HSV.out w'' hS.1) HPK.out.1 HPK.out.2.1 pick).mono fun e w3 he => ⟨by rw [he.1, HPK.out.2.2], hS.1.trans he.2 (fun _ _ q => q.elim), hS.2.imp fun L q => ⟨q.1.keep he.2 (fun q => q), q.2⟩⟩))) hS0 (fun w3 hS0 => ?_)
        (simp only [List.setIfInBounds_toArray, List.set_cons_zero, List.set_cons_succ])
        refine anyH_take 13 39 (.pointer (some ⟨R, i * 128, none⟩)) rfl rfl (by kernel_rfl) (by kernel_rfl) (by kernel_rfl) (fun _ _ _ h => h) (.inl ⟨by rfl, fun w'' hS => by go_simp⟩) hS0 ?_
        (simp only [List.setIfInBounds_toArray, List.set_cons_zero, List.set_cons_succ])
        obtain ⟨L, hL1, hL2, hL3⟩ := hS0.2
        have hb4 := hL1.over (o := i * 128) (m := z) (by rw [HZL.out]; exact hL2)
        refine anyH_skip 14 (w3.setCells R (i * 128) (cellsB z)) (by kernel_rfl) rfl rfl (by rfl) (run_store_mid 31 _ _ rfl R (i * 128) (cellsB z).toArray rfl rfl (hL1.there (by simp [cellsB_len, HZL.out]; exact hL2)) (by rw [infoSector]; simp [cellsB_len, HZL.out]) (all_oneCell_toArray (cellsB_one _))) ⟨Fr.setCells (F := fun b => b = R) (.inl rfl) hS0.1, patch L (i * 128) z, hb4, (by rw [patch_len (by rw [HZL.out]; exact hL2)]; exact hL2), (by rw [patch_twice (by rw [HZL.out]; exact hL2)]; exact hL3)⟩ ?_
        refine wpAnyH_done (by kernel_rfl) ?_ _
        rw [hL3] at hb4
        have H4 := Lib.hid (And.intro hb4 (Fr.setCells (F := fun b => b = R) (vs := cellsB z) (o := i * 128) (.inl rfl) hS0.1))
        generalize w3.setCells R (i * 128) (cellsB z) = w4 at *
        clear hb4 hL1 hL2 hL3 hS0
        have hm4 := map_keep HDW.out.map H4.out.2 (fun e => HDW.out.rM e.symm)
        have c1 : w4.cell? ⟨g, 1, none⟩ = some (.map (some M)) := (H4.out.2.cell (p := ⟨g, 1, none⟩) HDW.out.lt.1 HDW.out.gR).trans (dsk_cells HDW.out.blk).2.1
        have hk1 : IntKind.i64.wrap ((k : Int) + 1) = (k : Int) + 1 := by
          have := HK.out
          simp [IntKind.wrap, IntKind.signed, IntKind.bits]
          omega
        go_wp2_with (first
          | (at_delete; refine wpList_delete_own _ rfl _ _ 61 3 rfl 38 kyT Try.underlying61 HV M _ Dk rfl hm4 _ _ rfl HKY.out ?_; intro w5 hm5 hturn5)
          | go_in)
        have f45 : Fr (fun b => b = M) w4 w5 := (Fr.refl _ w4).grown hturn5.grown (fun j hj => .inl (by injection hj with hj; exact hj.symm))
        have hD5 := HDW.out.fall HZL.out H4.out.1 H4.out.2 hm5 f45
        rw [HNX.out] at hD5
        go_roundw
        case rel => exact ⟨k + 1, by go_num, by have := HK.out; omega, Lib.hid ⟨_, hD5⟩, Lib.hid ((HF.out.trans H4.out.2 (fun j _ e => .inl e)).trans f45 (fun j _ e => .inr e))⟩
        case measure => simp [intOf]; omega
      · obtain rfl : pick = 0 := by
          rw [hpk, List.getElem?_eq_none (by omega)]
          rfl
        clear hi hpk hkl hie hin hiv hvs hnx hln hdk hidk hivk hvl hz hvi hDk hoc hsz
        go_wp2_with fail
        refine wp_region_held_drew (S := fun w' => Fr (fun b => b = R) wr w' ∧ ∃ L, Blk w' R 31 (cellsB L).toArray ∧ i * 128 + 128 ≤ L.length ∧ patch L (i * 128) z = (dk.rd.set i z).flatten ++ dk.sp) (by kernel_rfl) (⟨(Fr.refl _ _).drew, dk.rd.flatten ++ dk.sp, HDW.out.red, HI.out.2.1, HI.out.2.2⟩) (fun hS0 => ?_)
        refine anyH_take 0 26 (.pointer (some ⟨g, 0, none⟩)) rfl rfl (by kernel_rfl) (by kernel_rfl) (by kernel_rfl) (fun _ _ _ h => h) (.inl ⟨by rfl, fun w'' hS => by go_simp⟩) hS0 ?_
        (simp only [List.setIfInBounds_toArray, List.set_cons_zero, List.set_cons_succ])
        refine anyH_take 1 27 (.pointer (some ⟨g, 0, none⟩)) rfl rfl (by kernel_rfl) (by kernel_rfl) (by kernel_rfl) (fun _ _ _ h => h) (.inl ⟨by rfl, fun w'' hS => by go_simp⟩) hS0 ?_
        (simp only [List.setIfInBounds_toArray, List.set_cons_zero, List.set_cons_succ])
        refine anyH_take 2 28 (.pointer (some ⟨g, 0, none⟩)) rfl rfl (by kernel_rfl) (by kernel_rfl) (by kernel_rfl) (fun _ _ _ h => h) (.inl ⟨by rfl, fun w'' hS => by go_simp⟩) hS0 ?_
        (simp only [List.setIfInBounds_toArray, List.set_cons_zero, List.set_cons_succ])
        refine anyH_take 3 29 (.slice (some ⟨R, 0, none⟩) dk.rd.length dk.cp) rfl rfl (by kernel_rfl) (by kernel_rfl) (by kernel_rfl) (fun _ _ _ h => h) (.inl ⟨by rfl, fun w'' hS => by have q0 := (hS.1.cell (p := ⟨g, 0, none⟩) HDW.out.lt.1 HDW.out.gR).trans (dsk_cells HDW.out.blk).1; go_simp⟩) hS0 ?_
        (simp only [List.setIfInBounds_toArray, List.set_cons_zero, List.set_cons_succ])
        refine anyH_take 4 30 (.int .i64 (i : Nat)) rfl rfl (by kernel_rfl) (by kernel_rfl) (by kernel_rfl) (fun _ _ _ h => h) (.inl ⟨by rfl, fun w'' hS => by go_simp⟩) hS0 ?_
        (simp only [List.setIfInBounds_toArray, List.set_cons_zero, List.set_cons_succ])
        refine anyH_take 5 31 (.pointer (some ⟨g, 0, none⟩)) rfl rfl (by kernel_rfl) (by kernel_rfl) (by kernel_rfl) (fun _ _ _ h => h) (.inl ⟨by rfl, fun w'' hS => by go_simp⟩) hS0 ?_
        (simp only [List.setIfInBounds_toArray, List.set_cons_zero, List.set_cons_succ])
        refine anyH_take 6 32 (.pointer (some ⟨g, 0, none⟩)) rfl rfl (by kernel_rfl) (by kernel_rfl) (by kernel_rfl) (fun _ _ _ h => h) (.inl ⟨by rfl, fun w'' hS => by go_simp⟩) hS0 ?_
        (simp only [List.setIfInBounds_toArray, List.set_cons_zero, List.set_cons_succ])
        refine anyH_take 7 33 (.pointer (some ⟨g, 1, none⟩)) rfl rfl (by kernel_rfl) (by kernel_rfl) (by kernel_rfl) (fun _ _ _ h => h) (.inl ⟨by rfl, fun w'' hS => by go_simp⟩) hS0 ?_
        (simp only [List.setIfInBounds_toArray, List.set_cons_zero, List.set_cons_succ])
        refine anyH_take 8 34 (.map (some M)) rfl rfl (by kernel_rfl) (by kernel_rfl) (by kernel_rfl) (fun _ _ _ h => h) (.inl ⟨by rfl, fun w'' hS => by have q0 := (hS.1.cell (p := ⟨g, 1, none⟩) HDW.out.lt.1 HDW.out.gR).trans (dsk_cells HDW.out.blk).2.1; go_simp⟩) hS0 ?_
        (simp only [List.setIfInBounds_toArray, List.set_cons_zero, List.set_cons_succ])
        refine anyH_take 9 35 (.int .i64 (i : Nat)) rfl rfl (by kernel_rfl) (by kernel_rfl) (by kernel_rfl) (fun _ _ _ h => h) (.inl ⟨by rfl, fun w'' hS => by go_simp⟩) hS0 ?_
        (simp only [List.setIfInBounds_toArray, List.set_cons_zero, List.set_cons_succ])
        refine anyH_take 10 36 vi rfl rfl (by kernel_rfl) (by kernel_rfl) (by kernel_rfl) (fun _ _ _ h => h) (.inl ⟨by rfl, fun w'' hS => by have q0 := HLK.out w'' hS.1; go_simp⟩) hS0 ?_
        (simp only [List.setIfInBounds_toArray, List.set_cons_zero, List.set_cons_succ])
        refine anyH_take 11 37 (.int .i64 0) rfl rfl (by kernel_rfl) (by kernel_rfl) (by kernel_rfl) (fun _ _ _ h => h) (.inl ⟨by rfl, fun w'' hS => by go_simp⟩) hS0 ?_
        (simp only [List.setIfInBounds_toArray, List.set_cons_zero, List.set_cons_succ])
        refine anyH_one 12 38 (av z) (by kernel_rfl) (tame_call 38 rfl rfl (by rfl) (fun w'' hS => by go_simp) (fun w'' hS => ((left_any (HSV.out w'' hS.1) HPK.out.1 HPK.out.2.1 0).mono fun e w3 he => ⟨by rw [he.1, HPK.out.2.2], hS.1.trans he.2 (fun _ _ q => q.elim), hS.2.imp fun L q => ⟨q.1.keep he.2 (fun q => q), q.2⟩⟩))) hS0 (fun w3 hS0 => ?_)
        (simp only [List.setIfInBounds_toArray, List.set_cons_zero, List.set_cons_succ])
        refine anyH_take 13 39 (.pointer (some ⟨R, i * 128, none⟩)) rfl rfl (by kernel_rfl) (by kernel_rfl) (by kernel_rfl) (fun _ _ _ h => h) (.inl ⟨by rfl, fun w'' hS => by go_simp⟩) hS0 ?_
        (simp only [List.setIfInBounds_toArray, List.set_cons_zero, List.set_cons_succ])
        obtain ⟨L, hL1, hL2, hL3⟩ := hS0.2
        have hb4 := hL1.over (o := i * 128) (m := z) (by rw [HZL.out]; exact hL2)
        refine anyH_skip 14 (w3.setCells R (i * 128) (cellsB z)) (by kernel_rfl) rfl rfl (by rfl) (run_store_mid 31 _ _ rfl R (i * 128) (cellsB z).toArray rfl rfl (hL1.there (by simp [cellsB_len, HZL.out]; exact hL2)) (by rw [infoSector]; simp [cellsB_len, HZL.out]) (all_oneCell_toArray (cellsB_one _))) ⟨Fr.setCells (F := fun b => b = R) (.inl rfl) hS0.1, patch L (i * 128) z, hb4, (by rw [patch_len (by rw [HZL.out]; exact hL2)]; exact hL2), (by rw [patch_twice (by rw [HZL.out]; exact hL2)]; exact hL3)⟩ ?_
        refine wpAnyH_done (by kernel_rfl) ?_ _
        rw [hL3] at hb4
        have H4 := Lib.hid (And.intro hb4 (Fr.setCells (F := fun b => b = R) (vs := cellsB z) (o := i * 128) (.inl rfl) hS0.1))
        generalize w3.setCells R (i * 128) (cellsB z) = w4 at *
        clear hb4 hL1 hL2 hL3 hS0
        have hm4 := map_keep HDW.out.map H4.out.2 (fun e => HDW.out.rM e.symm)
        have c1 : w4.cell? ⟨g, 1, none⟩ = some (.map (some M)) := (H4.out.2.cell (p := ⟨g, 1, none⟩) HDW.out.lt.1 HDW.out.gR).trans (dsk_cells HDW.out.blk).2.1
        have hk1 : IntKind.i64.wrap ((k : Int) + 1) = (k : Int) + 1 := by
          have := HK.out
          simp [IntKind.wrap, IntKind.signed, IntKind.bits]
          omega
        go_wp2_with (first
          | (at_delete; refine wpList_delete_own _ rfl _ _ 61 3 rfl 38 kyT Try.underlying61 HV M _ Dk rfl hm4 _ _ rfl HKY.out ?_; intro w5 hm5 hturn5)
          | go_in)
        have f45 : Fr (fun b => b = M) w4 w5 := (Fr.refl _ w4).grown hturn5.grown (fun j hj => .inl (by injection hj with hj; exact hj.symm))
        have hD5 := HDW.out.fall HZL.out H4.out.1 H4.out.2 hm5 f45
        rw [HNX.out] at hD5
        go_roundw
        case rel => exact ⟨k + 1, by go_num, by have := HK.out; omega, Lib.hid ⟨_, hD5⟩, Lib.hid ((HF.out.trans H4.out.2 (fun j _ e => .inl e)).trans f45 (fun j _ e => .inr e))⟩
        case measure => simp [intOf]; omega
    · have hke : k = n := by omega
      have hkn : ¬ ((k : Int) < (n : Int)) := by omega
      have htk : (d.pairs picks).take k = d.pairs picks := List.take_of_length_le (by rw [pairs_len]; have := HO1.out.1; omega)
      rw [htk] at hDk
      have h2 := hDk.blk.set_ 2 (.bool false)
      have h3 := h2.set_ 3 (.int .i64 0)
      have h4 := h3.set_ 4 (.bool false)
      obtain ⟨c0, c1, c2, c3, c4⟩ := dsk_cells hDk.blk
      have q2 := hDk.blk.frozen 2
      have k3 : (wr.setCell ⟨g, 2, none⟩ (.bool false)).cell? ⟨g, 3, none⟩ = some (.int .i64 (d.falls (d.pairs picks)).lf) := h2.cell 3
      have q3 := h2.frozen 3
      have k4 : ((wr.setCell ⟨g, 2, none⟩ (.bool false)).setCell ⟨g, 3, none⟩ (.int .i64 0)).cell? ⟨g, 4, none⟩ = some (.bool (d.falls (d.pairs picks)).dd) := h3.cell 4
      have q4 := h3.frozen 4
      have fe : Fr (fun b => b = g) wr (((wr.setCell ⟨g, 2, none⟩ (.bool false)).setCell ⟨g, 3, none⟩ (.int .i64 0)).setCell ⟨g, 4, none⟩ (.bool false)) := (((Fr.refl (fun b => b = g) wr).setCell (p := ⟨g, 2, none⟩) (.inl rfl) _).setCell (p := ⟨g, 3, none⟩) (.inl rfl) _).setCell (p := ⟨g, 4, none⟩) (.inl rfl) _
      have HE := Lib.hid (And.intro (hDk.fuse (fu := false) (lf := 0) (dd := false) fe h4 (by omega) (by omega)) (((HO1.out.2.2.2.mono (G := F) (fun _ _ q => q.elim)).trans HF.out (fun j _ q => by
        rcases q with q | q
        · rw [q]; exact hDk.fR
        · rw [q]; exact hDk.fM)).trans fe (fun j _ q => by have q' : j = g := q; rw [q']; exact hDk.fg)))
      clear h2 h3 h4 fe htk hDk hke
      go_wp2_with fail
      go_ret
      exact ⟨rfl, ⟨_, HE.out.1⟩, HE.out.2⟩
theorem dcrash_any (h : DiskW w F g R M D val d) {vp : Value} {picks : List Int} (hp : IntsAt w vp picks) (hpF : ∀ b, vp.ownBlock = some b → b ≠ R ∧ b ≠ M) (hvl : ∀ i, i < d.rd.length → (d.vs i).length ≤ 1000000) :
    Calls Try.prog 18 #[.pointer (some ⟨g, 0, none⟩), vp] w fun e w' => e = .returned (.int .i64 0) ∧ (∃ D', DiskW w' F g R M D' val (d.crash picks)) ∧ Fr F w w' := dcrash_pos h hp (fun b hb _ => hpF b hb) hvl
end
end Go.Proofs.Ytiobmejnamdneaa
