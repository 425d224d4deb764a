/- R5: laid together out of Qc1 Qmc Qdf Qdl Qcm. -/
import Derived.Maps.RangeWalk
import Derived.Lib.SliceRun
import Derived.Test.YtcnlgbjkjlbmbaaGreatR4
namespace Go.Proofs.YtcnlgbjkjlbmbaaGreat
open Go.RowKit

section
variable {P : Program} {o : Oper} {a : Act}
set_option maxRecDepth 100000 in
theorem run_pm_look_op {w : World} {M N : Nat} {f : Nat → List UInt8} (m x : Operand) (c : Bool) (hop : o.op = Op.lookup 62 m x c) (h : PMap w M N f) (hN : N ≤ 8192) (hm : a.eval m = .map (some M)) {i : Nat} (hx : a.eval x = .int .i64 (i : Int)) (hi : i ≤ 8192) :
 (execOp a.eval o).run Tryz.prog w = .ok (.value (if c then .tuple #[av (pgOr (f i)), .bool (decide (f i ≠ []))] else av (pgOr (f i)))) w := by
 have hrun := h.look hN hi c
 generalize (if c = true then Value.tuple #[av (pgOr (f i)), Value.bool (decide (f i ≠ []))] else av (pgOr (f i))) = u at hrun ⊢
 simp [execOp, hop, hm, hx, hrun, Result.andThen]
end
section
variable {w : World} {p g z fr lb M1 M2 : Nat} {v : Value} {dd : Bool}
set_option maxRecDepth 100000 in
set_option maxHeartbeats 4000000 in
theorem plcom1_any {N b bp n : Nat} {f1 : Nat → List UInt8} {x : List UInt8} (h : PlB w p g z fr lb M1 M2 v dd) (hm : PMap w M1 N f1) (hN : N ≤ 8192) (hn : n ≤ 8192) (hb : Blk w b 95 (frC (n, x))) (hbp : Blk w bp 31 #[.pointer (some ⟨p, 0, none⟩)]) :
 Calls Tryz.prog 85 #[frP b, .pointer (some ⟨bp, 0, none⟩)] w fun e w' => e = .returned (.bool (decide (f1 n ≠ []))) ∧ Fr (fun _ => False) w w' := by
 obtain ⟨t, ht⟩ : ∃ t, t = decide (f1 n ≠ []) := ⟨_, rfl⟩
 obtain ⟨y, hy⟩ : ∃ y, y = pgOr (f1 n) := ⟨_, rfl⟩
 have hyl : y.length = 512 := by rw [hy]; exact pgOr_len (fun q => (hm.some_lt q).2)
 have hc : ∀ w'', Fr (fun _ => False) w w'' → w''.cell? ⟨bp, 0, none⟩ = some (.pointer (some ⟨p, 0, none⟩)) ∧ w''.cell? ⟨p, 4, none⟩ = some (.map (some M1)) ∧ w''.cell? ⟨b, 0, none⟩ = some (.int .i64 (n : Nat)) ∧ PMap w'' M1 N f1 := fun w'' f => by
  refine ⟨?_, (pl_cells (h.keep f (fun q => q))).2.2.2.2.1, ?_, hm.keep f (fun q => q)⟩
  · rw [(hbp.keep f (fun q => q)).cell]; rfl
  · rw [(hb.keep f (fun q => q)).cell]; rfl
 have HC := Lib.hid hc
 rw [← ht]
 have HY := Lib.hid (And.intro hyl (And.intro hy ht))
 clear h hm hb hbp hc hyl hy ht
 go_enter Tryz.func85, Tryz.ntmps85
 go_wp2_with fail
 (try simp only [Act.put, List.setIfInBounds_toArray, List.set_cons_zero, List.set_cons_succ])
 refine wp_region_held_drew (S := fun w' => Fr (fun _ => False) w w') (by kernel_rfl) ((Fr.refl _ _).drew) (fun hS0 => ?_)
 refine anyH_tk 0 7 (.pointer (some ⟨p, 0, none⟩)) rfl rfl (.inl ⟨by rfl, fun w'' hS => by have q0 := (HC.out w'' hS).1; go_simp⟩) hS0 ?_
 (simp only [sA, sB, sC])
 refine anyH_tk 1 8 (.pointer (some ⟨p, 0, none⟩)) rfl rfl (.inl ⟨by rfl, fun w'' hS => by go_simp⟩) hS0 ?_
 (simp only [sA, sB, sC])
 refine anyH_tk 2 9 (.pointer (some ⟨p, 4, none⟩)) rfl rfl (.inl ⟨by rfl, fun w'' hS => by go_simp⟩) hS0 ?_
 (simp only [sA, sB, sC])
 refine anyH_tk 3 10 (.map (some M1)) rfl rfl (.inl ⟨by rfl, fun w'' hS => by have q0 := (HC.out w'' hS).2.1; go_simp⟩) hS0 ?_
 (simp only [sA, sB, sC])
 refine anyH_tk 4 11 (frP b) rfl rfl (.inl ⟨by rfl, fun w'' hS => by go_simp⟩) hS0 ?_
 (simp only [sA, sB, sC])
 refine anyH_tk 5 12 (frP b) rfl rfl (.inl ⟨by rfl, fun w'' hS => by go_simp⟩) hS0 ?_
 (simp only [sA, sB, sC])
 refine anyH_tk 6 13 (frP b) rfl rfl (.inl ⟨by rfl, fun w'' hS => by go_simp⟩) hS0 ?_
 (simp only [sA, sB, sC])
 refine anyH_tk 7 14 (.int .i64 (n : Nat)) rfl rfl (.inl ⟨by rfl, fun w'' hS => by have q0 := (HC.out w'' hS).2.2.1; go_simp⟩) hS0 ?_
 (simp only [sA, sB, sC])
 refine anyH_tk 8 15 (.tuple #[av y, .bool t]) rfl rfl (.inl ⟨by rfl, fun w'' hS => by rw [HY.out.2.1, HY.out.2.2]; exact run_pm_look_op (.tmp 10) (.tmp 14) true rfl (HC.out w'' hS).2.2.2 hN rfl rfl hn⟩) hS0 ?_
 (simp only [sA, sB, sC])
 refine anyH_tk 9 6 (.tuple #[av y, .bool t]) rfl rfl (.inl ⟨by rfl, fun w'' hS => by go_simp⟩) hS0 ?_
 (simp only [sA, sB, sC])
 refine anyH_tk 10 16 (av y) rfl rfl (.inl ⟨by rfl, fun w'' hS => by go_simp⟩) hS0 ?_
 (simp only [sA, sB, sC])
 refine anyH_tk 11 17 (.bool t) rfl rfl (.inl ⟨by rfl, fun w'' hS => by go_simp⟩) hS0 ?_
 (simp only [sA, sB, sC])
 obtain ⟨Ws, hWs, hbs, hrs, fs, ths⟩ := put_arr w.drew 50 Tryz.zeroCells50 512 zeroPgCells y HY.out.1
 refine anyH_value 12 4 (.pointer (some ⟨w.heap.size, 0, none⟩)) (w.drew.alloc (.cells Tryz.zeroCells50 50)) (by kernel_rfl) rfl rfl (by rfl) (by go_simp) (hS0.alloc _) ?_
 (simp only [sA, sB, sC])
 refine anyH_skip 13 Ws (by kernel_rfl) rfl rfl (by rfl) (by rw [hWs]; exact run_store_mid 50 _ _ rfl w.heap.size 0 (cellsB y).toArray rfl rfl ths (by rw [infoPgS]; simp [cellsB_len, HY.out.1]) (all_oneCell_toArray (cellsB_one _))) (hS0.trans fs (fun _ _ q => q)) ?_
 have HF := Lib.hid (hS0.trans fs (fun _ _ q => q))
 refine anyH_tk 14 5 (.bool t) rfl rfl (.inl ⟨by rfl, fun w'' hS => by go_simp⟩) HF.out ?_
 (simp only [sA, sB, sC])
 refine wpAnyH_done (by kernel_rfl) ?_ _
 clear hS0 hWs hbs hrs fs ths
 go_wp2_with fail
 go_ret
 exact ⟨rfl, HF.out⟩
end
end Go.Proofs.YtcnlgbjkjlbmbaaGreat

namespace Go.Proofs.YtcnlgbjkjlbmbaaGreat
open Go.RowKit Go.Maps

set_option maxRecDepth 100000 in
theorem ranges_keep {G : Nat → Prop} {w w' : World} {b r n cnt : Nat} {D : DataW Value} {left : Lit → Bool} (h : w.ranges Tryz.prog 3 HV b r n D left cnt) (f : Fr G w w') (hb : ¬ G b) (hr : ¬ G r) : w'.ranges Tryz.prog 3 HV b r n D left cnt := by
 have h1 := h.owns.lt
 have h2 := h.lt
 obtain ⟨es, clock, since, seen, c0, hb', F, hs, hD, hr', rest⟩ := h
 exact ⟨es, clock, since, seen, c0, (f.block b h1 hb).trans hb', F, hs, hD, (f.block r h2 hr).trans hr', rest⟩
def mixF (f1 f2 : Nat → List UInt8) (left : Lit → Bool) : Nat → List UInt8 := fun j => if f1 j ≠ [] ∧ left (ky j) = false then f1 j else f2 j
def overF (f1 f2 : Nat → List UInt8) : Nat → List UInt8 := fun j => if f1 j ≠ [] then f1 j else f2 j
set_option maxRecDepth 100000 in
theorem mixF_done {f1 f2 : Nat → List UInt8} {left : Lit → Bool} (h : ∀ kl, left kl = false) : mixF f1 f2 left = overF f1 f2 := by
 funext j
 unfold mixF overF
 simp only [h, and_true]
set_option maxRecDepth 100000 in
theorem mixF_step {f1 f2 : Nat → List UInt8} {left : Lit → Bool} {i : Nat} (hi : i ≤ 8192) (h : f1 i ≠ []) : mixF f1 f2 (fun z => left z && !z.sameKey (ky i)) = upd (mixF f1 f2 left) i (f1 i) := by
 funext j
 by_cases hji : j = i
 · subst hji
   rw [upd_self]
   unfold mixF
   rw [if_pos ⟨h, by show (left (ky j) && !(ky j).sameKey (ky j)) = false; rw [WideAt.sameKey_self (ky_lit j hi)]; simp⟩]
 · rw [upd_ne hji]
   have : (ky j).sameKey (ky i) = false := by
    rw [Bool.eq_false_iff]
    intro q
    exact ky_inj hji (WideAt.sameKey_eq q)
   unfold mixF
   show (if f1 j ≠ [] ∧ (left (ky j) && !(ky j).sameKey (ky i)) = false then f1 j else f2 j) = _
   rw [this]
   simp
set_option maxRecDepth 100000 in
theorem PMap.congr {w : World} {M N : Nat} {f f' : Nat → List UInt8} (h : PMap w M N f) (e : f = f') : PMap w M N f' := e ▸ h
set_option maxRecDepth 100000 in
set_option maxHeartbeats 4000000 in
theorem plcopy_any {w : World} {M1 M2 N : Nat} {f1 f2 : Nat → List UInt8} (h1 : PMap w M1 N f1) (h2 : PMap w M2 N f2) (hne : M1 ≠ M2) (hN : N ≤ 8192) :
 Calls Tryz.prog 86 #[.map (some M2), .map (some M1)] w fun e w' => e = .returned (.tuple #[]) ∧ PMap w' M2 N (overF f1 f2) ∧ Fr (fun b => b = M2) w w' := by
 have hl2 := h2.lt
 obtain ⟨D, hown, hkk, hop, hat, hlen⟩ := h1
 have hl1 := hown.lt
 have HD := Lib.hid (And.intro hkk (And.intro hop (And.intro hat (And.intro hlen (And.intro hl1 hl2)))))
 have H2 := Lib.hid h2
 clear hkk hop hat hlen hl1 hl2 h2
 go_enter Tryz.func86, Tryz.ntmps86
 go_wp2_with (at_range; refine wpList_range_own _ rfl _ 62 rfl 3 50 kyT Tryz.underlying62 HV M1 (Maps.size D) D rfl hown ?_; intro w0 hrg0 hg0 hs0)
 go_frame
 have f0 : Fr (fun _ => False) w w0 := (Fr.refl _ w).grown hg0 (fun j hj => by cases hj)
 have hm0 : PMap w0 M2 N (mixF f1 f2 (Maps.has D)) := (H2.out.keep f0 (fun q => q)).congr (by
  funext j
  unfold mixF
  rw [if_neg]
  rintro ⟨q1, q2⟩
  have := (HD.out.2.1 j (HD.out.2.2.2.1 j q1).1).2 q1
  rw [q2] at this
  cases this)
 have H0 := Lib.hid (And.intro hm0 (And.intro f0 hs0))
 clear hm0 f0 hg0 hs0 hown
 go_loopw [4] (fun _ wr => ∃ left cnt, wr.ranges Tryz.prog 3 HV M1 w.heap.size (Maps.size D) D left cnt ∧ Hid (PMap wr M2 N (mixF f1 f2 left)) ∧ Hid (Fr (fun b => b = M2) w wr)) (fun _ wr => wr.rangeLeft M1 w.heap.size)
 case atStart => exact ⟨_, _, hrg0, Lib.hid H0.out.1, Lib.hid (H0.out.2.1.mono (fun _ _ q => q.elim))⟩
 case round =>
  obtain ⟨left, cnt, hrg, HM, HF⟩ := hrel
  clear hrg0
  go_wp2_with (at_next; refine wpList_next_ranges _ rfl _ rfl 3 kyT HV (Value.int .i64) (fun u : Value => u) (fun key kl hk => by obtain ⟨x, rfl, _⟩ := Maps.keyOf_int_inv Tryz.underlying3 hk; exact ⟨x, rfl⟩) (fun u y _ => ⟨u, rfl⟩) M1 w.heap.size (Maps.size D) D left cnt rfl hrg ?_ ?_)
  · intro hc0 hl0
    have hm9 := HM.out.congr (mixF_done (f1 := f1) (f2 := f2) hl0)
    have H9 := Lib.hid hm9
    clear hm9 hc0 hl0 hrg
    go_wp2_with fail
    refine bodyPost_end (results_none rfl _ _ _) rfl ?_
    exact ⟨rfl, H9.out, HF.out⟩
  · intro x c kl ya yb w1 cnt1 hkx hlx hya hyb haty hrg1 hlt hg1 hs1 hen
    subst hya
    subst hyb
    obtain ⟨x', ex, hkl, hwf⟩ := Maps.keyOf_int_inv Tryz.underlying3 hkx
    cases ex
    have hhas : Maps.has D kl = true := by
     cases hh : Maps.has D kl with
     | true => rfl
     | false =>
       have q1 := Maps.atKey_of_not_has hh (DataW.held (Value.bool true))
       have q2 := Maps.atKey_of_not_has hh (DataW.held (Value.bool false))
       rw [haty] at q1 q2
       rw [q1] at q2
       cases q2
    obtain ⟨i, hki, hiN⟩ := HD.out.1 kl hhas
    have hfi : f1 i ≠ [] := (HD.out.2.1 i hiN).1 (by rw [← hki]; exact hhas)
    have hxi : x = (i : Int) := by
     rw [hki] at hkl
     injection hkl with _ q
     exact q.symm
    obtain ⟨pg, hpg⟩ : ∃ pg, pg = f1 i := ⟨_, rfl⟩
    have hpl : pg.length = 512 := by rw [hpg]; exact (HD.out.2.2.2.1 i hfi).2
    have hcv : c = av pg := by
     have q1 := HD.out.2.2.1 i hiN hfi (.map [])
     rw [← hki, haty] at q1
     rw [hpg]
     injection q1
    subst hxi
    subst hcv
    have fr1 : Fr (fun b => b = w.heap.size) wr w1 := (Fr.refl _ wr).grown hg1 (fun j hj => by injection hj with hj; exact .inl hj.symm)
    have hm1 := HM.out.keep fr1 (fun e => by have := HD.out.2.2.2.2.2; omega)
    obtain ⟨W1, hW1, hb1, hr1, f1', th1⟩ := put_arr w1 50 Tryz.zeroCells50 512 zeroPgCells pg hpl
    have hm2 := hm1.keep f1' (fun q => q)
    have HW := Lib.hid (And.intro hW1 (And.intro th1 (And.intro hr1 (And.intro hm2 (And.intro f1' (And.intro hpl (And.intro hrg1 (And.intro hpg (And.intro fr1 (And.intro hki hlt))))))))))
    have hi9 : i ≤ 8192 := by omega
    have HFI := Lib.hid hfi
    have HRG := Lib.hid hrg
    clear hkl hkx hlx haty hlt hg1 hs1 hhas hki hfi hwf hpl hpg fr1 hm1 hW1 hb1 hr1 f1' th1 hm2 hrg1 hrg
    go_wp2_with (first
     | (refine wpList_store_mid rfl 50 _ _ rfl w1.heap.size 0 (cellsB pg).toArray rfl rfl HW.out.2.1 (by rw [infoPgS]; simp [cellsB_len, HW.out.2.2.2.2.2.1]) (all_oneCell_toArray (cellsB_one _)) ?_; rw [← HW.out.1])
     | (refine wpList_load_mid rfl 50 _ rfl w1.heap.size 0 rfl (cellsB pg) _ HW.out.2.2.1 Tryz.underlying50 rfl (by rw [infoPgS, cellsB_len, HW.out.2.2.2.2.2.1]) ?_)
     | (refine wpList_pm_put rfl (.tmp 13) (.tmp 14) (.tmp 15) rfl HW.out.2.2.2.1 hN rfl rfl hiN rfl HW.out.2.2.2.2.2.1 ?_; intro w5 hm5 f5; have H5 := Lib.hid (And.intro hm5 f5); clear hm5 f5 hen; go_frame))
    obtain ⟨hW1, th1, hr1, hm2, f1', hpl, hrg1, hpg, fr1, hki, hlt⟩ := HW.out
    have hrg5 := ranges_keep (ranges_keep hrg1 f1' (fun q => q) (fun q => q)) H5.out.2 hne (fun e => by have := HD.out.2.2.2.2.2; omega)
    have hm5 := H5.out.1
    rw [hpg, ← mixF_step hi9 HFI.out, ← hki] at hm5
    go_roundw
    case rel => exact ⟨_, cnt1, hrg5, Lib.hid hm5, Lib.hid (((HF.out.trans fr1 (fun b hb q => by omega)).trans f1' (fun _ _ q => q.elim)).trans H5.out.2 (fun _ _ q => q))⟩
    case measure =>
     rw [hrg5.left_eq, HRG.out.left_eq]
     exact hlt
end Go.Proofs.YtcnlgbjkjlbmbaaGreat

namespace Go.Proofs.YtcnlgbjkjlbmbaaGreat
open Go.RowKit

abbrev cmF (bp : Nat) : Value := .func (.func 85) #[] #[.pointer (some ⟨bp, 0, none⟩)]
def CmAt (w : World) (v : Value) (bp : Nat) (bs : List Nat) (cl : List (Nat × List UInt8)) (f1 : Nat → List UInt8) : Prop :=
 ∀ W, Fr (fun b => v.ownBlock = some b) w W → ∀ (k b : Nat) (c : Nat × List UInt8), bs[k]? = some b → cl[k]? = some c → Calls Tryz.prog 85 #[frP b, .pointer (some ⟨bp, 0, none⟩)] W fun e w' => e = .returned (.bool (decide (f1 c.1 ≠ []))) ∧ Fr (fun _ => False) W w'
set_option maxRecDepth 100000 in
set_option maxHeartbeats 4000000 in
theorem cindex_any {w : World} {v : Value} {bp : Nat} {bs : List Nat} {cl : List (Nat × List UInt8)} {f1 : Nat → List UInt8} (hown : w.ownsRow 0 93 1 v cl.length (bs.map frP)) (hbl : bs.length = cl.length) (hcl : cl.length ≤ 100000) (HC : CmAt w v bp bs cl f1) :
 Calls Tryz.prog 108 #[v, cmF bp] w fun e w' => (e = .returned (.int .i64 (match cl.findIdx? (fun c => decide (f1 c.1 ≠ [])) with | some k => (k : Int) | none => -1))) ∧ Fr (fun _ => False) w w' := by
 obtain ⟨A, cc, hv, _, _⟩ := own_slice hown
 obtain ⟨m, hm⟩ : ∃ m, m = cl.length := ⟨_, rfl⟩
 have H0 := Lib.hid (And.intro hown (And.intro hbl (And.intro HC hm)))
 rw [← hm] at hv
 have hm9 : m ≤ 100000 := by omega
 obtain ⟨r, hr⟩ : ∃ r : Int, r = (match cl.findIdx? (fun c => decide (f1 c.1 ≠ [])) with | some k => (k : Int) | none => -1) := ⟨_, rfl⟩
 rw [← hr]
 have HR := Lib.hid hr
 subst hv
 clear hown hbl HC hm hr hcl
 go_enter Tryz.func108, Tryz.ntmps108
 go_wp2_with fail
 go_loopw [8] (fun x wr => ∃ k : Nat, x = .int .i64 k ∧ k ≤ m ∧ Hid (∀ j c, j < k → cl[j]? = some c → f1 c.1 = []) ∧ Hid (Fr (fun _ => False) w wr)) (fun x _ => m - (intOf x).toNat)
 case atStart => exact ⟨0, rfl, Nat.zero_le _, Lib.hid (fun j c hj => absurd hj (by omega)), Lib.hid (Fr.refl _ _)⟩
 case round =>
  obtain ⟨k, rfl, hk, HP, HF⟩ := hrel
  by_cases hlt : k < m
  · obtain ⟨hown, hbl, HC, hm⟩ := H0.out
    obtain ⟨b, hb⟩ : ∃ b, bs[k]? = some b := ⟨_, List.getElem?_eq_getElem (by omega)⟩
    obtain ⟨c, hc⟩ : ∃ c, cl[k]? = some c := ⟨_, List.getElem?_eq_getElem (by omega)⟩
    obtain ⟨g1, cap, hvA, hcell⟩ := own_cell1 (own_keep hown HF.out (fun _ _ q => q)) (i := k) (u := frP b) (by rw [List.getElem?_map, hb]; rfl)
    have hA : A = some ⟨g1, 0, none⟩ := by injection hvA
    subst hA
    clear hvA
    have hcall := HC wr (HF.out.mono (fun _ _ q => q.elim)) k b c hb hc
    obtain ⟨t, ht⟩ : ∃ t, t = decide (f1 c.1 ≠ []) := ⟨_, rfl⟩
    rw [← ht] at hcall
    have HCL := Lib.hid hcall
    have HX := Lib.hid (And.intro hc (And.intro ht hm))
    have hk0 : (0 : Int) ≤ (k : Int) := by omega
    have hkm : (k : Int) < (m : Int) := by omega
    clear hown hbl HC hm hb hc hcall ht hlt
    go_wp2_with fail
    refine HCL.out.mono ?_
    rintro e w2 ⟨rfl, f2⟩
    have H2 := Lib.hid f2
    clear f2 hcell
    cases t with
    | true =>
      have hp : f1 c.1 ≠ [] := of_decide_eq_true HX.out.2.1.symm
      have hr : r = (k : Int) := by
       rw [HR.out]
       have : cl.findIdx? (fun c => decide (f1 c.1 ≠ [])) = some k := by
        rw [List.findIdx?_eq_some_iff_getElem]
        obtain ⟨h1, h2⟩ := List.getElem?_eq_some_iff.1 HX.out.1
        refine ⟨h1, by rw [h2]; exact decide_eq_true hp, fun j hj => ?_⟩
        have := HP.out j (cl[j]'(by omega)) hj (List.getElem?_eq_getElem _)
        simp [this]
       rw [this]
      have HE := Lib.hid hr
      clear hr hp
      go_wp2_with fail
      go_ret
      exact ⟨by rw [HE.out]; rfl, HF.out.trans H2.out (fun _ _ q => q)⟩
    | false =>
      have hp : f1 c.1 = [] := by
       have := of_decide_eq_false HX.out.2.1.symm
       exact Decidable.byContradiction fun q => this q
      have HE := Lib.hid hp
      clear hp
      go_wp2_with fail
      refine ⟨⟨k + 1, by norm_cast, by omega, Lib.hid (fun j c' hj hc' => ?_), Lib.hid (HF.out.trans H2.out (fun _ _ q => q))⟩, ?_⟩
      · by_cases hjk : j < k
        · exact HP.out j c' hjk hc'
        · have : j = k := by omega
          subst this
          rw [HX.out.1] at hc'
          injection hc' with hc'
          rw [← hc']
          exact HE.out
      · simp only [intOf]
        omega
  · have hkm : m = k := by omega
    subst hkm
    have hr : r = -1 := by
     rw [HR.out]
     have : cl.findIdx? (fun c => decide (f1 c.1 ≠ [])) = none := by
      rw [List.findIdx?_eq_none_iff]
      intro c hc
      obtain ⟨j, hj⟩ := List.getElem?_of_mem hc
      have := HP.out j c (by have := H0.out.2.2.2; have := (List.getElem?_eq_some_iff.1 hj).1; omega) hj
      simp [this]
     rw [this]
    have HE := Lib.hid hr
    clear hr hlt
    go_wp2_with fail
    go_ret
    exact ⟨by rw [HE.out]; rfl, HF.out⟩
end Go.Proofs.YtcnlgbjkjlbmbaaGreat

namespace Go.Proofs.YtcnlgbjkjlbmbaaGreat
open Go.RowKit

set_option maxRecDepth 100000 in
theorem zip_get {bs : List Nat} {cl : List (Nat × List UInt8)} (h : bs.length = cl.length) {j : Nat} {z : Nat × Nat × List UInt8} (hz : (bs.zip cl)[j]? = some z) : bs[j]? = some z.1 ∧ cl[j]? = some z.2 := by
 obtain ⟨h1, h2⟩ := List.getElem?_eq_some_iff.1 hz
 rw [List.getElem_zip] at h2
 rw [List.length_zip] at h1
 rw [← h2]
 exact ⟨List.getElem?_eq_getElem (by omega), List.getElem?_eq_getElem (by omega)⟩
set_option maxRecDepth 100000 in
theorem zip_filter {bs : List Nat} {cl : List (Nat × List UInt8)} (h : bs.length = cl.length) (q : Nat × List UInt8 → Bool) : ((bs.zip cl).filter (fun z => q z.2)).map Prod.snd = cl.filter q := by
 rw [show (fun z : Nat × Nat × List UInt8 => q z.2) = q ∘ Prod.snd from rfl, ← List.filter_map, List.map_snd_zip (by omega)]
def DelAt (wr : World) (g m cap : Nat) (zs : List (Nat × Nat × List UInt8)) (q : Nat × Nat × List UInt8 → Bool) (i j : Nat) : Prop :=
 ∃ (J : List Value) (cur : Array Value), Blk wr g 93 cur ∧ cur.size = cap ∧ ((zs.take j).filter q).length = i ∧ i + J.length = j ∧ 1 ≤ J.length ∧ cur.toList.take m = ((zs.take j).filter q).map (fun z => frP z.1) ++ (J ++ (zs.drop j).map (fun z => frP z.1))
section
variable {wr w' : World} {g m cap i j : Nat} {zs : List (Nat × Nat × List UInt8)} {q : Nat × Nat × List UInt8 → Bool}
set_option maxRecDepth 100000 in
theorem DelAt.keep {G : Nat → Prop} (h : DelAt wr g m cap zs q i j) (f : Fr G wr w') (hg : ¬ G g) : DelAt w' g m cap zs q i j := by
 obtain ⟨J, cur, hb, r⟩ := h
 exact ⟨J, cur, hb.keep f hg, r⟩
set_option maxRecDepth 100000 in
theorem DelAt.cell (h : DelAt wr g m cap zs q i j) (hm : zs.length = m) {z : Nat × Nat × List UInt8} (hz : zs[j]? = some z) : wr.cell? ⟨g, j, none⟩ = some (frP z.1) := by
 obtain ⟨J, cur, hb, hs, h1, h2, h3, h4⟩ := h
 have hj : j < m := by have := (List.getElem?_eq_some_iff.1 hz).1; omega
 rw [hb.cell]
 have e : (cur.toList.take m)[j]? = some (frP z.1) := by
  rw [h4, List.getElem?_append_right (by rw [List.length_map]; omega), List.length_map, h1, List.getElem?_append_right (by omega), List.getElem?_map, List.getElem?_drop, show j + (j - i - J.length) = j by omega, hz]
  rfl
 rw [List.getElem?_take_of_lt hj] at e
 simpa using e
set_option maxRecDepth 100000 in
theorem DelAt.drop (h : DelAt wr g m cap zs q i j) {z : Nat × Nat × List UInt8} (hz : zs[j]? = some z) (hq : q z = false) : DelAt wr g m cap zs q i (j + 1) := by
 obtain ⟨J, cur, hb, hs, h1, h2, h3, h4⟩ := h
 obtain ⟨hz1, hz2⟩ := List.getElem?_eq_some_iff.1 hz
 have e1 : (zs.take (j + 1)).filter q = (zs.take j).filter q := by
  rw [List.take_add_one, hz]
  simp [hq]
 have e2 : zs.drop j = z :: zs.drop (j + 1) := by rw [List.drop_eq_getElem_cons hz1, hz2]
 refine ⟨J ++ [frP z.1], cur, hb, hs, by rw [e1]; exact h1, by rw [List.length_append, List.length_singleton]; omega, by rw [List.length_append]; omega, ?_⟩
 rw [e1, h4, e2]
 simp
set_option maxRecDepth 100000 in
theorem DelAt.stay (h : DelAt wr g m cap zs q i j) (hm : zs.length = m) {z : Nat × Nat × List UInt8} (hz : zs[j]? = some z) (hq : q z = true) : DelAt (wr.setCell ⟨g, i, none⟩ (frP z.1)) g m cap zs q (i + 1) (j + 1) := by
 obtain ⟨J, cur, hb, hs, h1, h2, h3, h4⟩ := h
 obtain ⟨hz1, hz2⟩ := List.getElem?_eq_some_iff.1 hz
 have e1 : (zs.take (j + 1)).filter q = (zs.take j).filter q ++ [z] := by
  rw [List.take_add_one, hz]
  simp [hq]
 have e2 : zs.drop j = z :: zs.drop (j + 1) := by rw [List.drop_eq_getElem_cons hz1, hz2]
 obtain ⟨u, J', rfl⟩ : ∃ u J', J = u :: J' := by
  cases J with
  | nil => simp at h3
  | cons u J' => exact ⟨u, J', rfl⟩
 refine ⟨J' ++ [frP z.1], _, hb.set_ i (frP z.1), by simp [hs], by rw [e1, List.length_append, List.length_singleton, h1], by simp at h2 ⊢; omega, by simp, ?_⟩
 rw [e1, Array.toList_setIfInBounds, List.take_set, h4, e2]
 have hl : i = (((zs.take j).filter q).map (fun z => frP z.1)).length := by rw [List.length_map, h1]
 rw [hl, List.set_append_right _ _ (Nat.le_refl _), Nat.sub_self]
 simp
set_option maxRecDepth 100000 in
theorem DelAt.there (h : DelAt wr g m cap zs q i j) (hm : zs.length = m) (hj : j < m) (hmc : m ≤ cap) : (wr.cell? ⟨g, i, none⟩).isSome = true ∧ wr.frozen? ⟨g, i, none⟩ = false := by
 obtain ⟨J, cur, hb, hs, h1, h2, h3, h4⟩ := h
 refine ⟨?_, hb.frozen i⟩
 rw [hb.cell]
 simp
 omega
end
set_option maxRecDepth 100000 in
set_option maxHeartbeats 8000000 in
theorem cdelete_any {w : World} {v : Value} {bp : Nat} {bs : List Nat} {cl : List (Nat × List UInt8)} {f1 : Nat → List UInt8} (hown : w.ownsRow 0 93 1 v cl.length (bs.map frP)) (hbl : bs.length = cl.length) (hcl : cl.length ≤ 100000) (HC : CmAt w v bp bs cl f1) :
 Calls Tryz.prog 84 #[v, cmF bp] w fun e w' => ∃ v', e = .returned v' ∧ (∃ bs' : List Nat, w'.ownsRow 0 93 1 v' (cl.filter fun c => decide (f1 c.1 = [])).length (bs'.map frP) ∧ bs'.length = (cl.filter fun c => decide (f1 c.1 = [])).length ∧ ∀ (i b : Nat) (c : Nat × List UInt8), bs'[i]? = some b → (cl.filter fun c => decide (f1 c.1 = []))[i]? = some c → ∃ j : Nat, bs[j]? = some b ∧ cl[j]? = some c) ∧ v'.ownBlock = v.ownBlock ∧ Fr (fun b => v.ownBlock = some b) w w' := by
 have HIX := Lib.hid (cindex_any hown hbl hcl HC)
 obtain ⟨A, cc, hv, _, _⟩ := own_slice hown
 obtain ⟨m, hm⟩ : ∃ m, m = cl.length := ⟨_, rfl⟩
 have H0 := Lib.hid (And.intro hown (And.intro hbl (And.intro HC hm)))
 have hm9 : m ≤ 100000 := by omega
 have hv2 := hv
 rw [← hm] at hv2
 obtain ⟨v0, hv0⟩ : ∃ v0, v0 = v := ⟨_, rfl⟩
 have HV0 := Lib.hid (And.intro hv0 hv2)
 obtain ⟨Pq, hPq⟩ : ∃ Pq : Value → World → Prop, Pq = fun v' w' => (∃ bs' : List Nat, w'.ownsRow 0 93 1 v' (cl.filter fun c => decide (f1 c.1 = [])).length (bs'.map frP) ∧ bs'.length = (cl.filter fun c => decide (f1 c.1 = [])).length ∧ ∀ (i b : Nat) (c : Nat × List UInt8), bs'[i]? = some b → (cl.filter fun c => decide (f1 c.1 = []))[i]? = some c → ∃ j : Nat, bs[j]? = some b ∧ cl[j]? = some c) ∧ v'.ownBlock = v.ownBlock ∧ Fr (fun b => v.ownBlock = some b) w w' := ⟨_, rfl⟩
 have HPQ := Lib.hid hPq
 suffices hgoal : Calls Tryz.prog 84 #[v, cmF bp] w fun e w' => ∃ v', e = .returned v' ∧ Pq v' w' by
  refine hgoal.mono ?_
  rintro e w' ⟨v', rfl, hq⟩
  rw [hPq] at hq
  exact ⟨v', rfl, hq⟩
 clear hPq
 rw [hv2] at HIX ⊢
 clear hown hbl HC hm hcl hv hv2 hv0
 go_enter Tryz.func84, Tryz.ntmps84
 go_wp2_with fail
 refine HIX.out.mono ?_
 rintro e w1 ⟨rfl, f1'⟩
 have H1 := Lib.hid f1'
 clear f1' HIX
 cases hk : cl.findIdx? (fun c => decide (f1 c.1 ≠ [])) with
 | none =>
   have hall : cl.filter (fun c => decide (f1 c.1 = [])) = cl := by
    rw [List.filter_eq_self]
    intro c hc
    have := List.findIdx?_eq_none_iff.1 hk c hc
    simpa using this
   have HE := Lib.hid hall
   clear hall hk
   simp only []
   go_wp2_with fail
   go_ret
   obtain ⟨hown, hbl, HC, hm⟩ := H0.out
   refine ⟨_, rfl, ?_⟩
   have e9 : (Value.slice A m cc) = v := HV0.out.2.symm
   rw [HPQ.out]
   simp only [HE.out]
   exact ⟨⟨bs, by rw [e9]; exact own_keep hown H1.out (fun _ _ q => q), hbl, fun i b c h1 h2 => ⟨i, h1, h2⟩⟩, by rw [e9]; rfl, H1.out.mono (fun _ _ q => q.elim)⟩
 | some ix =>
   obtain ⟨hown, hbl, HC, hm⟩ := H0.out
   obtain ⟨hix, hix1, hix2⟩ := List.findIdx?_eq_some_iff_getElem.1 hk
   obtain ⟨hl1, hrow⟩ := own_keep hown H1.out (fun _ _ q => q)
   rcases hrow with ⟨hv9, h0⟩ | ⟨g, cap, cur, hv9, hb, hg, hc1, hc2, hc3, hc4⟩
   · omega
   have hvv := HV0.out.2
   rw [hvv] at hv9
   have hA : A = some ⟨g, 0, none⟩ := by injection hv9
   have hcc : cc = cap := by injection hv9
   subst hA
   subst hcc
   have hob : v.ownBlock = some g := by rw [hvv]; rfl
   obtain ⟨zs, hzs⟩ : ∃ zs, zs = bs.zip cl := ⟨_, rfl⟩
   obtain ⟨q, hq⟩ : ∃ q : Nat × Nat × List UInt8 → Bool, q = fun z => decide (f1 z.2.1 = []) := ⟨_, rfl⟩
   have hzl : zs.length = m := by rw [hzs, List.length_zip, hbl, hm]; omega
   have hbz : bs.map frP = zs.map (fun z => frP z.1) := by
    rw [hzs, show (fun z : Nat × Nat × List UInt8 => frP z.1) = frP ∘ Prod.fst from rfl, ← List.map_map, List.map_fst_zip (by omega)]
   have hzix : ∀ j, j < m → (h1 : j < bs.length) → (h2 : j < cl.length) → zs[j]? = some (bs[j], cl[j]) := fun j hj h1 h2 => by
    rw [hzs, List.getElem?_eq_getElem (by rw [List.length_zip]; omega), List.getElem_zip]
   have hpre : (zs.take ix).filter q = zs.take ix := by
    rw [List.filter_eq_self]
    intro z hz
    obtain ⟨j, hj⟩ := List.getElem?_of_mem hz
    have hji : j < ix := by have := (List.getElem?_eq_some_iff.1 hj).1; rw [List.length_take] at this; omega
    rw [List.getElem?_take_of_lt hji, hzix j (by omega) (by omega) (by omega)] at hj
    injection hj with hj
    have := hix2 j hji
    rw [hq, ← hj]
    simpa using this
   have hz0 := hzix ix (by omega) (by omega) (by omega)
   have hqx : q (bs[ix]'(by omega), cl[ix]) = false := by
    rw [hq]
    simpa using hix1
   have hstart : DelAt w1 g m cc zs q ix (ix + 1) := by
    have e1 : (zs.take (ix + 1)).filter q = zs.take ix := by
     rw [List.take_add_one, hz0, Option.toList_some, List.filter_append, hpre]
     simp [hqx]
    have e2 : zs.drop ix = (bs[ix]'(by omega), cl[ix]) :: zs.drop (ix + 1) := by
     rw [List.drop_eq_getElem_cons (by omega)]
     congr 1
     have := hz0
     rw [List.getElem?_eq_getElem (by omega)] at this
     injection this
    refine ⟨[frP (bs[ix]'(by omega))], cur, hg, by rw [hc3, Nat.mul_one], by rw [e1, List.length_take, hzl]; omega, rfl, Nat.le_refl _, ?_⟩
    rw [e1]
    rw [Nat.mul_one, ← hm] at hc4
    rw [hc4, hbz]
    conv => lhs; rw [← List.take_append_drop ix zs, e2]
    simp
   have hmc : m ≤ cc := by rw [hm]; exact hc1
   have hcm : cc ≤ maxLen := hc2
   have HS := Lib.hid (And.intro hstart (And.intro hob (And.intro hzl (And.intro hmc (And.intro hzs (And.intro hq (And.intro hb hbl)))))))
   have hixm : ix < m := by omega
   have hcm9 : (m : Int) ≤ (cc : Int) := by omega
   clear hown hbl HC hm hix hix1 hix2 hl1 hv9 hb hg hc1 hc2 hc3 hc4 hvv hob hzs hq hzl hbz hzix hpre hz0 hqx hstart hmc hk
   simp only []
   have hb1 : ((ix : Int) == -1) = false := by rw [beq_eq_false_iff_ne]; omega
   go_wp2_with fail
   go_loopw [5, 6] (fun x y wr => ∃ i j : Nat, x = .int .i64 i ∧ y = .int .i64 j ∧ i < j ∧ j ≤ m ∧ Hid (DelAt wr g m cc zs q i j) ∧ Hid (Fr (fun b => v.ownBlock = some b) w wr)) (fun _ y _ => m - (intOf y).toNat)
   case atStart => exact ⟨ix, ix + 1, rfl, by norm_cast, by omega, by omega, Lib.hid HS.out.1, Lib.hid (H1.out.mono (fun _ _ q => q.elim))⟩
   case round =>
    obtain ⟨i, j, rfl, rfl, hij, hjm, HD, HF⟩ := hrel
    by_cases hlt : j < m
    · obtain ⟨z, hz⟩ : ∃ z, zs[j]? = some z := ⟨_, List.getElem?_eq_getElem (by have := HS.out.2.2.1; omega)⟩
      have hzz := hz
      rw [HS.out.2.2.2.2.1] at hzz
      obtain ⟨hb, hc⟩ := zip_get HS.out.2.2.2.2.2.2.2 hzz
      have hcell := HD.out.cell HS.out.2.2.1 hz
      have hcall := H0.out.2.2.1 wr HF.out j z.1 z.2 hb hc
      obtain ⟨t, ht⟩ : ∃ t, t = decide (f1 z.2.1 ≠ []) := ⟨_, rfl⟩
      rw [← ht] at hcall
      have hqt : q z = !t := by
       rw [HS.out.2.2.2.2.2.1, ht]
       simp
      have HCL := Lib.hid hcall
      have HX := Lib.hid (And.intro hz hqt)
      have hj0 : (0 : Int) ≤ (j : Int) := by omega
      have hjm' : (j : Int) < (m : Int) := by omega
      have hi0 : (0 : Int) ≤ (i : Int) := by omega
      have him : (i : Int) < (m : Int) := by omega
      clear hzz hb hc hcall hqt ht hlt hz
      go_wp2_with fail
      refine HCL.out.mono ?_
      rintro e w2 ⟨rfl, f2⟩
      have hd2 := HD.out.keep f2 (fun q => q)
      have H2 := Lib.hid (And.intro f2 hd2)
      have hth := hd2.there HS.out.2.2.1 (by omega) HS.out.2.2.2.1
      obtain ⟨c0, hc0⟩ := Option.isSome_iff_exists.1 hth.1
      have hfz := hth.2
      clear f2 hcell hd2 hth
      cases t with
      | true =>
        clear hc0 hfz
        have hd3 := H2.out.2.drop HX.out.1 HX.out.2
        have HE := Lib.hid hd3
        clear hd3
        go_wp2_with fail
        refine ⟨⟨i, j + 1, rfl, by norm_cast, by omega, by omega, Lib.hid HE.out, Lib.hid (HF.out.trans H2.out.1 (fun _ _ q => q.elim))⟩, ?_⟩
        simp only [intOf]
        omega
      | false =>
        have hd3 := H2.out.2.stay HS.out.2.2.1 HX.out.1 HX.out.2
        have HE := Lib.hid hd3
        clear hd3
        go_wp2_with fail
        refine ⟨⟨i + 1, j + 1, by norm_cast, by norm_cast, by omega, by omega, Lib.hid HE.out, Lib.hid ((HF.out.trans H2.out.1 (fun _ _ q => q.elim)).setCell (p := ⟨g, i, none⟩) (.inl HS.out.2.1) _)⟩, ?_⟩
        simp only [intOf]
        omega
    · obtain rfl : j = m := by omega
      obtain ⟨J, cur, hb, hs, h1, h2, h3, h4⟩ := HD.out
      have htk : zs.take j = zs := List.take_of_length_le (by have := HS.out.2.2.1; omega)
      have hdk : zs.drop j = [] := List.drop_of_length_le (by have := HS.out.2.2.1; omega)
      rw [htk, hdk, List.map_nil, List.append_nil] at h4
      rw [htk] at h1
      have hmc := HS.out.2.2.2.1
      obtain ⟨cs', q1, q2, q3, q4⟩ := hb.range_set (vs := List.replicate (j - i) (Value.pointer none)) (o := i) (by rw [List.length_replicate]; omega)
      have hclr := fun ty => Go.Lib.run_clear_slice (P := Tryz.prog) wr 63 93 ty (.pointer none) Tryz.underlying63 (fun w => by go_simp) rfl rfl g i (j - i) (cc - i) (by omega) (fun k hk => by rw [hb.cell]; simp; omega) (fun k _ => hb.frozen (i + k))
      have hrow : (wr.setCells g i (List.replicate (j - i) (Value.pointer none))).ownsRow 0 93 1 (.slice (some ⟨g, 0, none⟩) i cc) i (((zs.filter q).map Prod.fst).map frP) := by
       refine ⟨by rw [List.length_map, List.length_map]; omega, .inr ⟨g, cc, cs', rfl, Nat.zero_le _, q1, by omega, by omega, by rw [q2, hs, Nat.mul_one], ?_⟩⟩
       rw [Nat.mul_one, List.map_map]
       have e1 : cs'.toList.take i = cur.toList.take i := by
        apply List.ext_getElem?
        intro k
        by_cases hk : k < i
        · rw [List.getElem?_take_of_lt hk, List.getElem?_take_of_lt hk, Array.getElem?_toList, Array.getElem?_toList, q4 k (.inl hk)]
        · rw [List.getElem?_eq_none (by rw [List.length_take]; omega), List.getElem?_eq_none (by rw [List.length_take]; omega)]
       have e2 : cur.toList.take i = (cur.toList.take j).take i := by rw [List.take_take, Nat.min_eq_left (by omega)]
       rw [e1, e2, h4]
       exact List.take_left' (by rw [List.length_map, h1])
      have hfr : Fr (fun b => v.ownBlock = some b) w (wr.setCells g i (List.replicate (j - i) (Value.pointer none))) := Fr.setCells (F := fun b => v.ownBlock = some b) (.inl HS.out.2.1) HF.out
      have HE := Lib.hid (And.intro hrow (And.intro hfr h1))
      have hi0 : (0 : Int) ≤ (i : Int) := by omega
      have him : (i : Int) ≤ (j : Int) := by omega
      have hic : (i : Int) ≤ (cc : Int) := by omega
      clear hb hs h1 h2 h3 h4 htk hdk q1 q2 q3 q4 hrow hfr hlt
      go_wp2_with fail
      go_ret
      refine ⟨_, rfl, ?_⟩
      obtain ⟨hrow, hfr, h1⟩ := HE.out
      obtain ⟨hst, hob, hzl, hmc, hzs, hq, hb, hbl⟩ := HS.out
      have hfl : (zs.filter q).map Prod.snd = cl.filter (fun c => decide (f1 c.1 = [])) := by
       rw [hzs, hq]
       exact zip_filter hbl (fun c => decide (f1 c.1 = []))
      have hll : (cl.filter (fun c => decide (f1 c.1 = []))).length = i := by rw [← hfl, List.length_map, h1]
      rw [HPQ.out]
      simp only [hll]
      refine ⟨⟨(zs.filter q).map Prod.fst, hrow, by rw [List.length_map, h1], fun k b c e1 e2 => ?_⟩, ?_, hfr⟩
      · rw [← hfl, List.getElem?_map] at e2
        rw [List.getElem?_map] at e1
        obtain ⟨z, hz, ez⟩ := Option.map_eq_some_iff.1 e1
        rw [hz] at e2
        have ez2 : z.2 = c := by simpa using e2
        have hmem : z ∈ zs := (List.mem_filter.1 (List.mem_of_getElem? hz)).1
        obtain ⟨k2, hj⟩ := List.getElem?_of_mem hmem
        rw [hzs] at hj
        obtain ⟨r1, r2⟩ := zip_get hbl hj
        exact ⟨k2, by rw [r1, ez], by rw [r2, ez2]⟩
      · rw [hob]
        rfl
end Go.Proofs.YtcnlgbjkjlbmbaaGreat

namespace Go.Proofs.YtcnlgbjkjlbmbaaGreat
open Go.RowKit

set_option maxRecDepth 100000 in
theorem recC_app (r t : List Chg) : recC (r ++ t) = recC r ++ recC t := by simp [recC]
set_option maxRecDepth 100000 in
theorem rec_flat {w : World} {b : Nat} : ∀ {r : List Chg} {off : Nat}, (∀ x ∈ r, x.p.length = 512) → w.rangeAt b off (recC r) → RecAt w b off r
 | [], off, _, _ => fun i x hi => by simp at hi
 | y :: r, off, hs, h => fun i x hi => by
   have hy := hs y (by simp)
   have hyl := chC_len hy
   have e : recC (y :: r) = chC y ++ recC r := by simp [recC]
   rw [e] at h
   cases i with
   | zero =>
     injection hi with hi
     subst hi
     refine ⟨hy, fun j v hv => ?_⟩
     rw [Nat.zero_mul, Nat.add_zero]
     exact h j v (by rw [List.getElem?_append_left (List.getElem?_eq_some_iff.1 hv).1]; exact hv)
   | succ i =>
     have ih := rec_flat (w := w) (b := b) (r := r) (off := off + 513) (fun x hx => hs x (by simp [hx])) (fun j v hv => by
      have := h (513 + j) v (by rw [List.getElem?_append_right (by omega), hyl, Nat.add_sub_cancel_left]; exact hv)
      rwa [← Nat.add_assoc] at this)
     have := ih i x hi
     rwa [show off + 513 + i * 513 = off + (i + 1) * 513 by omega] at this
set_option maxRecDepth 100000 in
theorem rcV_of_own {w : World} {base : Nat} {v : Value} {r : List Chg} (h : w.ownsRow base 101 513 v r.length (recC r)) (hall : ∀ x ∈ r, x.p.length = 512) : RcV w v r := by
 obtain ⟨A, cap, rfl, h1, h2⟩ := own_slice h
 refine ⟨A, cap, rfl, h1, h2, fun hn => ?_⟩
 rcases h.2 with ⟨_, h0⟩ | ⟨b, c, cur, hv, _⟩
 · omega
 · have hA : A = some ⟨b, 0, none⟩ := by injection hv
   subst hA
   refine ⟨b, 0, rfl, rec_flat hall (fun j u hj => ?_)⟩
   have := h.cells (g := b) rfl j u hj
   rw [Addr.add_mid] at this
   exact this
set_option maxRecDepth 100000 in
theorem slice_of_chg (x : Chg) (hx : x.p.length = 512) (w : World) : (Instr.buildSlice 77 1 #[(0, .agg (chC x).toArray)]).run Tryz.prog w = .ok (.slice (some ⟨w.heap.size, 0, none⟩) 1 1) (w.alloc (.cells (chC x).toArray 101)) := by
 obtain ⟨i0, hi, hz0, hz1, hz2⟩ := info_parts infoChg
 refine run_buildSlice w 77 101 1 _ _ i0 _ Tryz.underlying77 hi hz0 (by rw [hz1]; omega) (by rw [hz1]; omega) ?_
 rw [hz1]
 have hb : ∃ L : List Value, ((Array.range (1 * 513)).map ((Value.agg (chC zChg).toArray).cells[· % (Value.agg (chC zChg).toArray).cells.size]!)) = L.toArray ∧ L.length = 513 := ⟨_, (Array.toArray_toList (xs := _)).symm, by simp⟩
 obtain ⟨L, hL, hLl⟩ := hb
 rw [hL]
 exact fill_one (cs := chC x) (base := L) (by rw [chC_len hx, hLl]) 513 (chC_len hx)
set_option maxRecDepth 100000 in
theorem append_chg {w : World} {base : Nat} {v : Value} {r t : List Chg} (hown : w.ownsRow base 101 513 v r.length (recC r)) {b off c : Nat} (ht : w.rangeAt b off (recC t)) (h5 : ∀ x ∈ t, x.p.length = 512) (hN : r.length + t.length ≤ 1000000) (hb : base ≤ w.heap.size) (ty : TypeId) :
 ∃ v' w', (Builtin.append_ #[77, 77] ty #[v, .slice (some ⟨b, off, none⟩) t.length c]).run Tryz.prog w = .ok v' w' ∧ w'.ownsRow base 101 513 v' (r ++ t).length (recC (r ++ t)) ∧ w.grownBy w' v.ownBlock ∧ (v'.ownBlock = v.ownBlock ∨ v'.ownBlock = some w.heap.size) := by
 obtain ⟨i0, hi, hz0, hz1, hz2⟩ := info_parts infoChg
 obtain ⟨v', w', hrun, h2, h3, _, h5'⟩ := run_append_own_at (P := Tryz.prog) w base 77 ty 101 i0 (.agg (chC zChg).toArray) 513 520 Tryz.underlying77 hi hz0 hz1 hz2 (by show (chC zChg).toArray.size = 513; rw [List.size_toArray]; exact chC_len (nought_len _)) (by omega) v r.length (recC r) hown ⟨b, off, none⟩ t.length c (recC t)
  (recC_len h5) (fun j z hj => by
    rw [Addr.add_mid]
    exact ht j z hj) (fun u hu => by
     obtain ⟨l, hl, hul⟩ := List.mem_flatten.1 hu
     obtain ⟨x, _, rfl⟩ := List.mem_map.1 hl
     exact chC_one x u hul) (by simp only [maxLen]; omega) (by omega) hb
 refine ⟨v', w', hrun, ?_, h3, h5'⟩
 rw [List.length_append, recC_app]
 exact h2

section
variable {ops : Array Oper} {o : Oper} {a : Act} {Q : Exit → Act → World → Prop}
set_option maxRecDepth 100000 in
theorem wpList_one_chg {rest : List Oper} {w : World} (hg : o.guard = none) (x : Operand) (hop : o.op = .buildSlice 77 1 #[(0, x)]) {c : Chg} (hl : c.p.length = 512) (hx : a.eval x = .agg (chC c).toArray)
 (hK : wpList Tryz.prog ops Q rest (a.put o.dst (.slice (some ⟨w.heap.size, 0, none⟩) 1 1)) (w.alloc (.cells (chC c).toArray 101))) : wpList Tryz.prog ops Q (o :: rest) a w := by
 refine wpList_plain hg fun K hK' => ?_
 have hr := slice_of_chg c hl w
 unfold Oper.wp execOp
 simp only [hop, Array.map, hx]
 simp [hr, hx, Result.andThen]
 exact hK' _ _ hK
set_option maxRecDepth 100000 in
theorem wpList_push_chg {rest : List Oper} {w : World} (hg : o.guard = none) (s x : Operand) (hop : o.op = Op.call { callee := Callee.builtin Builtin.append, args := #[s, x], argTypes := #[77, 77] }) {v : Value} {base : Nat} {r : List Chg} {c : Chg} (hs : a.eval s = v)
 (hown : w.ownsRow base 101 513 v r.length (recC r)) {b : Nat} (hx : a.eval x = .slice (some ⟨b, 0, none⟩) 1 1) (hb : w.rangeAt b 0 (chC c)) (h5 : c.p.length = 512) (hN : r.length ≤ 100000) (hbs : base ≤ w.heap.size)
 (hK : ∀ v' w', w'.ownsRow base 101 513 v' (r ++ [c]).length (recC (r ++ [c])) → w.grownBy w' v.ownBlock → wpList Tryz.prog ops Q rest (a.put o.dst v') w') : wpList Tryz.prog ops Q (o :: rest) a w := by
 refine wpList_plain hg fun K' hK' => ?_
 obtain ⟨v', w', hrun, ho', hgr, _⟩ := append_chg (t := [c]) hown (b := b) (off := 0) (c := 1) (by simpa [recC] using hb) (fun y hy => by rw [List.mem_singleton.1 hy]; exact h5) (by simp; omega) hbs o.type
 have hrun' : (Builtin.append_ #[77, 77] o.type #[v, .slice (some ⟨b, 0, none⟩) 1 1]).run Tryz.prog w = .ok v' w' := hrun
 unfold Oper.wp
 simp [execOp, hop, resolve, invoke, builtin, hs, hx, hrun', Result.andThen]
 exact hK' _ _ (hK v' w' ho' hgr)
end
def chgs (f : Nat → List UInt8) (l : List Nat) : List Chg := l.map fun n => ⟨((n : Nat) : Int), f n⟩
set_option maxRecDepth 100000 in
theorem chgs_snoc {f : Nat → List UInt8} {l : List Nat} {k n : Nat} (h : l[k]? = some n) : chgs f (l.take (k + 1)) = chgs f (l.take k) ++ [⟨((n : Nat) : Int), f n⟩] := by
 unfold chgs
 rw [List.take_add_one, h, List.map_append]
 rfl
set_option maxRecDepth 100000 in
theorem chgs_len (f : Nat → List UInt8) (l : List Nat) : (chgs f l).length = l.length := List.length_map _
set_option maxRecDepth 100000 in
theorem DT.keep' {G : Nat → Prop} {w w' : World} {B g : Nat} {P : Nat → Prop} {d : DS} (h : DT w B g d P) (f : Fr G w w') (hG : ∀ b, P b → ¬ G b) : DT w' B g d P := ⟨h.1.keep f hG, fun b t cs hb hk => h.2 b t cs hb ((f.block b (h.1.2 b hb).2 (hG b hb)).symm.trans hk)⟩
set_option maxRecDepth 100000 in
theorem DT.not_t {w : World} {B g b : Nat} {t : TypeId} {cs : Array Value} {P : Nat → Prop} {d : DS} (h : DT w B g d P) (hb : Blk w b t cs) (h1 : t ≠ 74) (h2 : t ≠ 83) : ¬ P b := fun q => (h.2 b _ _ q hb).elim h1 h2
end Go.Proofs.YtcnlgbjkjlbmbaaGreat


