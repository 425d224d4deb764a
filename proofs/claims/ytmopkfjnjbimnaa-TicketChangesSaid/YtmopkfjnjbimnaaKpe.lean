/- ticket's closures: tells$1, tells$2, At$1; slices.EqualFunc. -/
import Derived.Test.YtmopkfjnjbimnaaKpc
import Derived.Test.YtmopkfjnjbimnaaKpd
namespace Go.Proofs.Ytmopkfjnjbimnaa
open Go.RowKit

set_option maxRecDepth 100000 in
theorem ptl2_any (c : CpD) (z : Int) (w : World) : Calls Try.prog 86 #[.agg (cpC c).toArray, .int .i64 z] w fun e w' => e = .returned (.bool (c.st == z)) ∧ Fr (fun _ => False) w w' := by
  obtain ⟨fl, dy, va, st, ho, nx⟩ := c
  have HF : Hid (Fr (fun _ => False) w (w.alloc (.cells #[.int .i64 fl, .int .i64 dy, .int .i64 va, .int .i64 st, .int .i64 ho, .int .u64 (nx : Nat)] 49))) := Lib.hid ((Fr.refl _ w).alloc _)
  show Calls Try.prog 86 #[.agg #[.int .i64 fl, .int .i64 dy, .int .i64 va, .int .i64 st, .int .i64 ho, .int .u64 (nx : Nat)], .int .i64 z] w fun e w' => e = .returned (.bool (st == z)) ∧ Fr (fun _ => False) w w'
  go_enter Try.func86, Try.ntmps86
  go_wp2_with fail
  go_ret
  exact ⟨rfl, HF.out⟩
set_option maxRecDepth 100000 in
set_option maxHeartbeats 4000000 in
theorem peqf_any {w : World} {v u : Value} {cps : List CpD} {now : List Int} (hv : RwV w 6 cpC v cps) (hu : IntsAt w u now) (hm : cps.length ≤ 1000) :
    Calls Try.prog 85 #[v, u, .func (.func 86) #[] #[]] w fun e w' => e = .returned (.bool (decide (now = cps.map CpD.st))) ∧ Fr (fun _ => False) w w' := by
  obtain ⟨r, hr⟩ : ∃ r, r = decide (now = cps.map CpD.st) := ⟨_, rfl⟩
  rw [← hr]
  have HR := Lib.hid hr
  have HA := Lib.hid hv
  have HI := Lib.hid hu
  obtain ⟨A1, n1, c1, e1, l1⟩ : ∃ A n c, v = .slice A n c ∧ n = cps.length := by obtain ⟨A, c, e, _⟩ := hv.slice; exact ⟨A, _, c, e, rfl⟩
  obtain ⟨A2, n2, c2, e2, l2⟩ : ∃ A n c, u = .slice A n c ∧ n = now.length := by obtain ⟨A, c, e, _⟩ := hu; exact ⟨A, _, c, e, rfl⟩
  subst e1 e2
  have HL := Lib.hid (And.intro l1 l2)
  have hmn : n1 ≤ 1000 := by omega
  clear hr hv hu l1 l2 hm
  by_cases g0 : n1 = n2
  · subst g0
    have q0 : ((n1 : Int) != (n1 : Int)) = false := by simp
    have HKc : Hid (Fr (fun _ => False) w w) := Lib.hid (Fr.refl _ _)
    go_enter Try.func85, Try.ntmps85
    go_wp2_with fail
    clear q0
    go_loopw [17] (fun x wr => ∃ k : Nat, x = .int .i64 k ∧ k ≤ n1 ∧ Hid (∀ j, j < k → now[j]? = (cps.map CpD.st)[j]?) ∧ Hid (Fr (fun _ => False) w wr)) (fun x _ => n1 - (intOf x).toNat)
    case atStart => exact ⟨0, rfl, Nat.zero_le _, Lib.hid (fun j h => absurd h (by omega)), HKc⟩
    case round =>
      clear HKc
      obtain ⟨k, rfl, hk, HP, HF⟩ := hrel
      by_cases hlt : k < n1
      · obtain ⟨x1, hx⟩ : ∃ x, cps[k]? = some x := ⟨_, List.getElem?_eq_getElem (by rw [← HL.out.1]; exact hlt)⟩
        obtain ⟨z, hz⟩ : ∃ z, now[k]? = some z := ⟨_, List.getElem?_eq_getElem (by rw [← HL.out.2]; exact hlt)⟩
        obtain ⟨b1, o1, cc1, e1, hc1⟩ := HA.out.cell hx
        injection e1 with e1 e1n e1c
        subst e1
        obtain ⟨A9, c9, e9, _, hi9⟩ := HI.out
        injection e9 with e9 e9n e9c
        subst e9
        obtain ⟨b2, o2, rfl, hi8⟩ := hi9 (by rw [← HL.out.2]; omega)
        have hy1 : wr.rangeAt b1 (o1 + k * 6) (cpC x1) := fun j u hu => by have h5 := hc1 j u hu; exact (HF.out.cell (World.block_lt_of_cell? w _ h5) (fun q => q)).trans h5
        have hy2 : wr.cell? ⟨b2, o2 + k, none⟩ = some (.int .i64 z) := by have h5 := hi8 k z hz; exact (HF.out.cell (World.block_lt_of_cell? w _ h5) (fun q => q)).trans h5
        have hk0 : (0 : Int) ≤ (k : Int) := by omega
        have hkm : (k : Int) < (n1 : Int) := by omega
        have HXY := Lib.hid (And.intro hx (And.intro hlt hz))
        have HCL := Lib.hid (fun W => ptl2_any x1 z W)
        clear hx hz hc1 e1n e1c hlt hi9 hi8 e9n e9c
        go_upto_region 6 with (refine wpList_load_mid rfl 49 (.tmp 20) rfl b1 (o1 + k * 6) rfl (cpC x1) _ hy1 Try.underlying49 rfl (info_size infoCp) ?_)
        obtain ⟨xfl, xdy, xva, xst, xho, xnx⟩ := x1
        obtain ⟨W1, hW1⟩ : ∃ W, W = wr.alloc (.cells #[.int .i64 xfl, .int .i64 xdy, .int .i64 xva, .int .i64 xst, .int .i64 xho, .int .u64 (xnx : Nat)] 49) := ⟨_, rfl⟩
        have f1 : Fr (fun _ => False) wr W1 := by rw [hW1]; exact (Fr.refl _ wr).alloc _
        have hb1 : Blk W1 wr.heap.size 49 #[.int .i64 xfl, .int .i64 xdy, .int .i64 xva, .int .i64 xst, .int .i64 xho, .int .u64 (xnx : Nat)] := by rw [hW1]; exact Blk.new wr _ _
        have HF1 := Lib.hid (HF.out.trans f1 (fun _ _ q => q))
        have HBX := Lib.hid hb1
        rw [← hW1]
        have hz0 : W1.cell? ⟨b2, o2 + k, none⟩ = some (.int .i64 z) := (f1.cell (World.block_lt_of_cell? _ _ hy2) (fun q => q)).trans hy2
        clear hW1 f1 hb1 hy1 hy2
        generalize hge : wr.heap.size = ge at *
        clear hge
        cases he : (xst == z) with
        | true =>
          rw [he] at HCL
          go_wp2_with (refine wpList_load_mid rfl 49 (.tmp 8) rfl ge 0 rfl (cpC ⟨xfl, xdy, xva, xst, xho, xnx⟩) _ (blk_range HBX.out) Try.underlying49 rfl (info_size infoCp) ?_)
          refine (HCL.out _).mono ?_
          rintro e w1 ⟨rfl, f1⟩
          have HF2 := Lib.hid (HF1.out.trans f1 (fun _ _ q => q))
          have HE := Lib.hid (beq_iff_eq.1 he)
          clear f1 he
          go_wp2_with fail
          refine ⟨⟨k + 1, by go_num, by have := HXY.out.2.1; omega, Lib.hid (fun i hi => ?_), HF2⟩, ?_⟩
          · rcases Nat.lt_or_ge i k with h | h
            · exact HP.out i h
            · obtain rfl : i = k := by omega
              rw [List.getElem?_map, HXY.out.1, HXY.out.2.2, HE.out]
              rfl
          · simp [intOf]
            have := HXY.out.2.1
            omega
        | false =>
          rw [he] at HCL
          obtain rfl : r = false := by
            rw [HR.out]
            refine decide_eq_false (fun q => ?_)
            have h5 := congrArg (fun l => l[k]?) q
            simp only [List.getElem?_map, HXY.out.1, HXY.out.2.2, Option.map_some, Option.some.injEq] at h5
            exact absurd h5.symm (by simpa using he)
          clear he
          go_wp2_with (refine wpList_load_mid rfl 49 (.tmp 8) rfl ge 0 rfl (cpC ⟨xfl, xdy, xva, xst, xho, xnx⟩) _ (blk_range HBX.out) Try.underlying49 rfl (info_size infoCp) ?_)
          refine (HCL.out _).mono ?_
          rintro e w1 ⟨rfl, f1⟩
          have HF2 := Lib.hid (HF1.out.trans f1 (fun _ _ q => q))
          clear f1
          go_wp2_with fail
          go_ret
          exact ⟨rfl, HF2.out⟩
      · obtain rfl : k = n1 := by omega
        have hkk : ¬ (k : Int) < (k : Int) := by omega
        obtain rfl : r = true := by
          rw [HR.out]
          refine decide_eq_true (List.ext_getElem? (fun j => ?_))
          rcases Nat.lt_or_ge j k with h | h
          · exact HP.out j h
          · rw [List.getElem?_eq_none (by rw [← HL.out.2]; exact h), List.getElem?_eq_none (by rw [List.length_map, ← HL.out.1]; exact h)]
        clear hlt
        go_wp2_with fail
        go_ret
        exact ⟨rfl, HF.out⟩
  · have q0 : ((n1 : Int) != (n2 : Int)) = true := by rw [bne_iff_ne]; omega
    obtain rfl : r = false := by
      rw [HR.out]
      refine decide_eq_false (fun q => g0 ?_)
      have := congrArg List.length q
      rw [List.length_map] at this
      rw [HL.out.1, HL.out.2, this]
    clear g0
    go_enter Try.func85, Try.ntmps85
    go_wp2_with fail
    go_ret
    exact ⟨rfl, Fr.refl _ _⟩
/-- May an event be, behind what the coupons are now, and the last day? -/
def tellG (now : List Int) (d : Int) (x : EvT) : Bool := (decide (d ≤ x.dy) && decide (x.dy ≤ 1000000)) && (hasB now.length x.cp && (now[(x.cp - 1).toNat]? == some x.fr) && leadsS x.fr x.tw)
theorem evOn_G (till : Int) (now was : List Int) (d : Int) (x : EvT) : evOn till (now, was, d) x = if tellG now d x = true then some (now.set (x.cp - 1).toNat x.tw, if x.dy ≤ till then was.set (x.cp - 1).toNat x.tw else was, x.dy) else none := by
  have hT : tellG now d x = true ↔ (1 ≤ x.cp ∧ x.cp ≤ (now.length : Int) ∧ d ≤ x.dy ∧ x.dy ≤ 1000000 ∧ now[(x.cp - 1).toNat]? = some x.fr ∧ leadsS x.fr x.tw = true) := by
    unfold tellG hasB
    simp only [Bool.and_eq_true, decide_eq_true_eq, beq_iff_eq]
    exact ⟨fun q => ⟨q.2.1.1.1, q.2.1.1.2, q.1.1, q.1.2, q.2.1.2, q.2.2⟩, fun h => ⟨⟨h.2.2.1, h.2.2.2.1⟩, ⟨⟨h.1, h.2.1⟩, h.2.2.2.2.1⟩, h.2.2.2.2.2⟩⟩
  unfold evOn
  by_cases h : tellG now d x = true
  · rw [if_pos h, if_pos (hT.1 h)]
  · rw [if_neg h, if_neg (fun q => h (hT.2 q))]
end Go.Proofs.Ytmopkfjnjbimnaa
