/- slices.Index, slices.Contains of statuses; ticket's Value, At. -/
import Derived.Test.YtmopkfjnjbimnaaKqg
namespace Go.Proofs.Ytmopkfjnjbimnaa
open Go.RowKit

def IxP (n : Int) (b : Bool) : Prop := decide (0 ≤ n) = b
theorem ints_keep0 {w w' : World} {v : Value} {zs : List Int} (h : IntsAt w v zs) (f : Fr (fun _ => False) w w') : IntsAt w' v zs := by
  obtain ⟨A, c, rfl, h1, h2⟩ := h
  refine ⟨A, c, rfl, h1, fun q => ?_⟩
  obtain ⟨b, off, rfl, h3⟩ := h2 q
  exact ⟨b, off, rfl, fun i z hz => (f.cell (World.block_lt_of_cell? w _ (h3 i z hz)) (fun q => q)).trans (h3 i z hz)⟩
set_option maxRecDepth 100000 in
theorem pindex_any {w : World} {u : Value} {l : List Int} (hu : IntsAt w u l) (hm : l.length ≤ 1000) (z : Int) :
    Calls Try.prog 93 #[u, .int .i64 z] w fun e w' => ∃ n : Int, e = .returned (.int .i64 n) ∧ IxP n (l.contains z) ∧ w' = w := by
  have HI := Lib.hid hu
  obtain ⟨A2, n2, c2, e2, l2⟩ : ∃ A n c, u = .slice A n c ∧ n = l.length := by obtain ⟨A, c, e, _⟩ := hu; exact ⟨A, _, c, e, rfl⟩
  subst e2
  have HL := Lib.hid l2
  have hmn : n2 ≤ 1000 := by omega
  clear hu l2 hm
  go_enter Try.func93, Try.ntmps93
  go_wp2_with fail
  go_loopw [8] (fun x wr => ∃ k : Nat, x = .int .i64 k ∧ k ≤ n2 ∧ Hid (∀ j y, j < k → l[j]? = some y → y ≠ z) ∧ Hid (wr = w)) (fun x _ => n2 - (intOf x).toNat)
  case atStart => exact ⟨0, rfl, Nat.zero_le _, Lib.hid (fun j y h => absurd h (by omega)), Lib.hid rfl⟩
  case round =>
    obtain ⟨k, rfl, hk, HP, HF⟩ := hrel
    by_cases hlt : k < n2
    · obtain ⟨y, hy⟩ : ∃ y, l[k]? = some y := ⟨_, List.getElem?_eq_getElem (by rw [← HL.out]; exact hlt)⟩
      obtain ⟨A9, c9, e9, _, hi9⟩ := HI.out
      injection e9 with e9 e9n e9c
      subst e9
      obtain ⟨b2, o2, rfl, hi8⟩ := hi9 (by rw [← HL.out]; omega)
      have hy2 : wr.cell? ⟨b2, o2 + k, none⟩ = some (.int .i64 y) := by rw [HF.out]; exact hi8 k y hy
      have hk0 : (0 : Int) ≤ (k : Int) := by omega
      have hkm : (k : Int) < (n2 : Int) := by omega
      have HXY := Lib.hid (And.intro hy hlt)
      clear hy hlt e9n e9c hi9 hi8
      by_cases he : z = y
      · have hb : (z == y) = true := by rw [beq_iff_eq]; exact he
        have HE := Lib.hid he
        clear he
        go_wp2_with fail
        clear hy2 hk0 hkm hb
        go_ret
        refine ⟨_, rfl, ?_, HF.out⟩
        unfold IxP
        rw [decide_eq_true (by omega)]
        symm
        rw [List.contains_iff_mem, HE.out]
        exact List.mem_of_getElem? HXY.out.1
      · have hb : (z == y) = false := by rw [beq_eq_false_iff_ne]; exact he
        have HE := Lib.hid he
        clear he
        go_wp2_with fail
        refine ⟨⟨k + 1, by go_num, by have := HXY.out.2; omega, Lib.hid (fun i c hi hc => ?_), HF⟩, ?_⟩
        · rcases Nat.lt_or_ge i k with h | h
          · exact HP.out i c h hc
          · obtain rfl : i = k := by omega
            rw [HXY.out.1] at hc
            injection hc with hc
            subst hc
            exact fun q => HE.out q.symm
        · simp [intOf]
          have := HXY.out.2
          omega
    · obtain rfl : k = n2 := by omega
      have hkk : ¬ (k : Int) < (k : Int) := by omega
      clear hlt
      go_wp2_with fail
      go_ret
      refine ⟨_, rfl, ?_, HF.out⟩
      unfold IxP
      rw [decide_eq_false (by omega)]
      symm
      rw [← Bool.not_eq_true]
      intro q
      obtain ⟨j, hj⟩ := List.mem_iff_getElem?.1 (show z ∈ l by simpa using q)
      exact HP.out j z (by rw [HL.out]; exact (List.getElem?_eq_some_iff.1 hj).1) hj rfl
set_option maxRecDepth 100000 in
theorem pcontains_any {w : World} {u : Value} {l : List Int} (hu : IntsAt w u l) (hm : l.length ≤ 1000) (z : Int) :
    Calls Try.prog 60 #[u, .int .i64 z] w fun e w' => e = .returned (.bool (l.contains z)) ∧ w' = w := by
  have H := Lib.hid (pindex_any hu hm z)
  obtain ⟨A2, n2, c2, e2⟩ : ∃ A n c, u = .slice A n c := by obtain ⟨A, c, e, _⟩ := hu; exact ⟨A, _, c, e⟩
  subst e2
  obtain ⟨r, hr⟩ : ∃ r, r = l.contains z := ⟨_, rfl⟩
  rw [← hr] at H
  rw [← hr]
  clear hu hm hr
  go_enter Try.func60, Try.ntmps60
  go_wp2_with fail
  refine H.out.mono ?_
  rintro e w1 ⟨n, rfl, hn, rfl⟩
  unfold IxP at hn
  by_cases h : 0 ≤ n
  · have hb : n ≥ 0 := h
    obtain rfl : r = true := by rw [← hn]; exact decide_eq_true h
    clear hn h
    go_wp2_with fail
    go_ret
    exact ⟨rfl, rfl⟩
  · have hb : ¬ n ≥ 0 := h
    obtain rfl : r = false := by rw [← hn]; exact decide_eq_false h
    have hd : decide (0 ≤ n) = false := decide_eq_false h
    have hd2 : decide (n ≥ 0) = false := decide_eq_false h
    clear hn
    go_wp2_with fail
    go_ret
    exact ⟨rfl, rfl⟩
theorem sum_fil (l : List CpD) (p : Int → Bool) (h : ∀ c ∈ l, someB c.va = true) : 0 ≤ ((l.filter fun c => p c.st).map CpD.va).sum ∧ ((l.filter fun c => p c.st).map CpD.va).sum ≤ (l.length : Int) * 1000000000000 := by
  induction l with
  | nil => simp
  | cons y l ih =>
    have h1 : 0 ≤ y.va ∧ y.va ≤ 1000000000000 := of_decide_eq_true (h y (by simp))
    have h2 := ih (fun x hx => h x (by simp [hx]))
    rw [List.filter_cons]
    split
    · simp only [List.map_cons, List.sum_cons, List.length_cons]
      push_cast
      omega
    · simp only [List.length_cons]
      push_cast
      omega
/-- Which are the statuses then does not hang on the day that is asked for. -/
theorem evsOn_till (a b : Int) : ∀ (l : List EvT) (now wa wb : List Int) (d : Int) (r : List Int × List Int × Int), evsOn a (now, wa, d) l = some r → ∃ w', evsOn b (now, wb, d) l = some (r.1, w', r.2.2) := by
  intro l
  induction l with
  | nil =>
    intro now wa wb d r h
    simp only [evsOn, Option.some.injEq] at h
    subst h
    exact ⟨wb, rfl⟩
  | cons x l ih =>
    intro now wa wb d r h
    simp only [evsOn, evOn_G] at h ⊢
    by_cases g : tellG now d x = true
    · rw [if_pos g, Option.bind_some] at h
      rw [if_pos g, Option.bind_some]
      exact ih _ _ _ _ _ h
    · rw [if_neg g] at h
      cases h
theorem may_then {t : TkD} (h : mayT t = true) (day : Int) : ∃ now was d, evsOn day (st0 t t.cps.length) t.his = some (now, was, d) ∧ thenT t day = some was := by
  rw [mayT_eq] at h
  unfold tellsB at h
  simp only [Bool.and_eq_true] at h
  have h9 := h.2.2
  rw [then_st0] at h9
  cases hE : evsOn 0 (st0 t t.cps.length) t.his with
  | none => rw [hE] at h9; simp at h9
  | some r =>
    obtain ⟨now, was, d⟩ := r
    rw [hE] at h9
    simp only at h9
    obtain ⟨w', hw⟩ := evsOn_till 0 day t.his _ _ (List.replicate t.cps.length 1) _ _ hE
    refine ⟨now, w', d, hw, ?_⟩
    rw [then_st0]
    have : evsOn day (st0 t t.cps.length) t.his = some (now, w', d) := hw
    rw [this]
    simp only
    by_cases hn : now = t.cps.map CpD.st
    · rw [if_pos hn]
    · rw [if_neg hn] at h9
      cases h9
set_option maxRecDepth 100000 in
set_option maxHeartbeats 4000000 in
theorem pvalue_any {w : World} {v : Value} {t : TkD} (hv : TkV w v t) (hok : TkOk t) (hl : t.loc.size ≤ 1000) {u : Value} {l : List Int} (hu : IntsAt w u l) (hul : l.length ≤ 1000) : Calls Try.prog 21 #[v, u] w fun e w' => e = .returned (.int .i64 (if mayT t = true then sumT t l else 0)) ∧ Fr (fun _ => False) w w' := by
  obtain ⟨z, hz⟩ : ∃ z, z = if mayT t = true then sumT t l else 0 := ⟨_, rfl⟩
  rw [← hz]
  have HZ := Lib.hid hz
  have HV := Lib.hid hv
  obtain ⟨sc, sx, se, rfl, a1, a2, a3⟩ := hv
  have HA := Lib.hid (And.intro a1 (And.intro a2 a3))
  obtain ⟨A1, n1, c1, e1, l1⟩ : ∃ A n c, sc = .slice A n c ∧ n = t.cps.length := by obtain ⟨A, c, e, _⟩ := a1.slice; exact ⟨A, _, c, e, rfl⟩
  obtain ⟨A2, n2, c2, e2, l2⟩ : ∃ A n c, sx = .slice A n c ∧ n = t.txs.length := by obtain ⟨A, c, e, _⟩ := a2.slice; exact ⟨A, _, c, e, rfl⟩
  obtain ⟨A3, n3, c3, e3, l3⟩ : ∃ A n c, se = .slice A n c ∧ n = t.his.length := by obtain ⟨A, c, e, _⟩ := a3.slice; exact ⟨A, _, c, e, rfl⟩
  subst e1 e2 e3
  have HL := Lib.hid (And.intro l1 (And.intro l2 l3))
  obtain ⟨W0, hW0⟩ : ∃ W, W = w.alloc (.cells (tkA t (.slice A1 n1 c1) (.slice A2 n2 c2) (.slice A3 n3 c3)) 27) := ⟨_, rfl⟩
  have HB : Hid (Fr (fun _ => False) w W0 ∧ Blk W0 w.heap.size 27 (tkA t (.slice A1 n1 c1) (.slice A2 n2 c2) (.slice A3 n3 c3)) ∧ W0.heap.size = w.heap.size + 1) := Lib.hid (by rw [hW0]; exact ⟨(Fr.refl _ w).alloc _, Blk.new w _ _, Array.size_push _⟩)
  have HQ := Lib.hid hW0
  have HU := Lib.hid hu
  obtain ⟨Au, nu, cu, eu, lu⟩ : ∃ A n c, u = .slice A n c ∧ n = l.length := by obtain ⟨A, c, e, _⟩ := hu; exact ⟨A, _, c, e, rfl⟩
  subst eu
  have HLU := Lib.hid (And.intro lu hul)
  clear hu lu hul
  have HMT := Lib.hid (fun W f => pmayt_any (w := W) (HV.out.keep0 f) hok hl)
  have HBL := Lib.hid HB.out.2.1
  clear a1 a2 a3 l1 l2 l3 hW0 hok hl hz
  go_enter Try.func21, Try.ntmps21
  go_upto_region 1 with fail
  rw [← HQ.out]
  clear HQ
  cases e0 : mayT t with
  | false =>
    rw [e0] at HMT
    obtain rfl : z = 0 := by rw [HZ.out, e0]; rfl
    go_wp2_with (refine wpList_load_mid rfl 27 (.tmp 2) rfl w.heap.size 0 rfl (tkA t (.slice A1 n1 c1) (.slice A2 n2 c2) (.slice A3 n3 c3)).toList _ (blk_range HBL.out) Try.underlying27 rfl infoTk ?_)
    refine (HMT.out _ HB.out.1).mono ?_
    rintro e w1 ⟨rfl, f1⟩
    have HF1 := Lib.hid (HB.out.1.trans f1 (fun _ _ q => q))
    clear f1
    go_wp2_with fail
    go_ret
    exact ⟨rfl, HF1.out⟩
  | true =>
    rw [e0] at HMT
    have HIN := Lib.hid (may_in e0)
    rw [e0, if_pos rfl] at HZ
    clear e0
    go_wp2_with (refine wpList_load_mid rfl 27 (.tmp 2) rfl w.heap.size 0 rfl (tkA t (.slice A1 n1 c1) (.slice A2 n2 c2) (.slice A3 n3 c3)).toList _ (blk_range HBL.out) Try.underlying27 rfl infoTk ?_)
    refine (HMT.out _ HB.out.1).mono ?_
    rintro e w1 ⟨rfl, f1⟩
    have HF1 := Lib.hid (HB.out.1.trans f1 (fun _ _ q => q))
    have HBL1 := Lib.hid (HBL.out.keep f1 (fun q => q))
    clear f1 HBL HMT
    have hx4 : w1.cell? ⟨w.heap.size, 3, none⟩ = some (.slice A1 n1 c1) := cp_cell HBL1.out 3 rfl
    have m2 : n1 ≤ 4 := by rw [HL.out.1]; exact HIN.out.1.2
    have H0 : Hid (Fr (fun _ => False) w w1) := HF1
    go_wp2_with fail
    clear hx4
    go_loopw [5, 14] (fun s x wr => ∃ k : Nat, s = .int .i64 (((t.cps.take k).filter fun c => inL l c.st).map CpD.va).sum ∧ x = .int .i64 k ∧ k ≤ n1 ∧ Hid (Fr (fun _ => False) w wr)) (fun _ x _ => n1 - (intOf x).toNat)
    case atStart => exact ⟨0, rfl, rfl, Nat.zero_le _, H0⟩
    case round =>
      clear H0
      obtain ⟨k, rfl, rfl, hk, HF⟩ := hrel
      obtain ⟨S, hS⟩ : ∃ S, S = (((t.cps.take k).filter fun c => inL l c.st).map CpD.va).sum := ⟨_, rfl⟩
      rw [← hS]
      by_cases hlt : k < n1
      · obtain ⟨x1, hx⟩ : ∃ x, t.cps[k]? = some x := ⟨_, List.getElem?_eq_getElem (by rw [← HL.out.1]; exact hlt)⟩
        obtain ⟨b2, o2, cc2, e2, hc2⟩ := HA.out.1.cell hx
        injection e2 with e2 e2n e2c
        subst e2
        have hy1 : wr.rangeAt b2 (o2 + k * 6) (cpC x1) := fun j u hu => by have h5 := hc2 j u hu; exact (HF.out.cell (World.block_lt_of_cell? w _ h5) (fun q => q)).trans h5
        have hk0 : (0 : Int) ≤ (k : Int) := by omega
        have hkm : (k : Int) < (n1 : Int) := by omega
        have hsum := sum_fil (t.cps.take k) (inL l) (fun x hx => HIN.out.2.2.2.2 x (List.mem_of_mem_take hx))
        rw [← hS] at hsum
        have hl4 : (t.cps.take k).length ≤ 4 := by rw [List.length_take]; omega
        have hb : 0 ≤ S ∧ S ≤ 4000000000000 := ⟨hsum.1, Int.le_trans hsum.2 (by have : ((t.cps.take k).length : Int) ≤ 4 := (by omega); omega)⟩
        have hy0 : 0 ≤ x1.va ∧ x1.va ≤ 1000000000000 := of_decide_eq_true (HIN.out.2.2.2.2 x1 (List.mem_of_getElem? hx))
        have hadd : wrap64 (S + x1.va) = S + x1.va := wrap64_in (by omega) (by omega)
        have hnx : (((t.cps.take (k + 1)).filter fun c => inL l c.st).map CpD.va).sum = S + (if inL l x1.st = true then x1.va else 0) := by
          rw [take_succ' hx, List.filter_append, List.map_append, List.sum_append, ← hS]
          by_cases h : inL l x1.st = true
          · simp [h]
          · simp [h]
        have HNX := Lib.hid (And.intro hnx (And.intro hlt hadd))
        clear hx hc2 e2n e2c hlt hS hsum hl4 hb hy0 hnx hadd
        go_upto_region 7 with (refine wpList_load_mid rfl 49 (.tmp 16) rfl b2 (o2 + k * 6) rfl (cpC x1) _ hy1 Try.underlying49 rfl (info_size infoCp) ?_)
        obtain ⟨xfl, xdy, xva, xst, xho, xnx⟩ := x1
        obtain ⟨W1, hW1⟩ : ∃ W, W = wr.alloc (.cells #[.int .i64 xfl, .int .i64 xdy, .int .i64 xva, .int .i64 xst, .int .i64 xho, .int .u64 (xnx : Nat)] 49) := ⟨_, rfl⟩
        have f1 : Fr (fun _ => False) wr W1 := by rw [hW1]; exact (Fr.refl _ wr).alloc _
        have hb1 : Blk W1 wr.heap.size 49 #[.int .i64 xfl, .int .i64 xdy, .int .i64 xva, .int .i64 xst, .int .i64 xho, .int .u64 (xnx : Nat)] := by rw [hW1]; exact Blk.new wr _ _
        have HF2 := Lib.hid (HF.out.trans f1 (fun _ _ q => q))
        have hz2 := cp_cell hb1 2 (v := .int .i64 xva) rfl
        have hz3 := cp_cell hb1 3 (v := .int .i64 xst) rfl
        have HCN := Lib.hid (pcontains_any (ints_keep0 HU.out HF2.out) HLU.out.2 xst)
        rw [← hW1]
        clear hW1 f1 hb1 hy1 hk0 hkm
        generalize hge : wr.heap.size = ge at *
        clear hge
        have hadd := HNX.out.2.2
        by_cases h0 : nu = 0
        · have b0 : ((nu : Int) == 0) = true := by rw [beq_iff_eq]; omega
          have HIL : Hid (inL l xst = true) := Lib.hid (by unfold inL; rw [List.isEmpty_iff_length_eq_zero.2 (by rw [← HLU.out.1]; exact h0)]; rfl)
          clear h0
          go_wp2_with fail
          refine ⟨⟨k + 1, by rw [HNX.out.1, if_pos HIL.out]; first | rfl | rw [HNX.out.2.2], by go_num, by have := HNX.out.2.1; omega, HF2⟩, ?_⟩
          simp [intOf]
          have := HNX.out.2.1
          omega
        · have b0 : ((nu : Int) == 0) = false := by rw [beq_eq_false_iff_ne]; omega
          have hem : l.isEmpty = false := by rw [← Bool.not_eq_true, List.isEmpty_iff_length_eq_zero, ← HLU.out.1]; exact h0
          clear h0
          cases hc : l.contains xst with
          | true =>
            rw [hc] at HCN
            have HIL : Hid (inL l xst = true) := Lib.hid (by unfold inL; rw [hc, Bool.or_true])
            clear hc hem
            go_wp2_with fail
            refine HCN.out.mono ?_
            rintro e w2 ⟨rfl, rfl⟩
            go_wp2_with fail
            refine ⟨⟨k + 1, by rw [HNX.out.1, if_pos HIL.out]; first | rfl | rw [HNX.out.2.2], by go_num, by have := HNX.out.2.1; omega, HF2⟩, ?_⟩
            simp [intOf]
            have := HNX.out.2.1
            omega
          | false =>
            rw [hc] at HCN
            have HIL : Hid (inL l xst = false) := Lib.hid (by unfold inL; rw [hc, hem]; rfl)
            clear hc hem
            go_wp2_with fail
            refine HCN.out.mono ?_
            rintro e w2 ⟨rfl, rfl⟩
            go_wp2_with fail
            refine ⟨⟨k + 1, by rw [HNX.out.1, if_neg (by rw [HIL.out]; simp)]; simp, by go_num, by have := HNX.out.2.1; omega, HF2⟩, ?_⟩
            simp [intOf]
            have := HNX.out.2.1
            omega
      · obtain rfl : k = n1 := by omega
        have hkk : ¬ (k : Int) < (k : Int) := by omega
        obtain rfl : z = S := by
          rw [HZ.out, hS, List.take_of_length_le (by rw [← HL.out.1]; exact Nat.le_refl _)]
          rfl
        clear hlt hS
        go_wp2_with fail
        go_ret
        exact ⟨rfl, HF.out⟩
set_option maxRecDepth 100000 in
set_option maxHeartbeats 4000000 in
theorem pat_any {w : World} {v : Value} {t : TkD} (hv : TkV w v t) (hok : TkOk t) (hl : t.loc.size ≤ 1000) (day : Int) : Calls Try.prog 20 #[v, .int .i64 day] w fun e w' => ∃ u, e = .returned u ∧ RowS w' w.heap.size u (if mayT t = true then (thenT t day).getD [] else []) ∧ Fr (fun _ => False) w w' := by
  obtain ⟨R, hR⟩ : ∃ R, R = (if mayT t = true then (thenT t day).getD [] else []) := ⟨_, rfl⟩
  rw [← hR]
  have HR := Lib.hid hR
  have HV := Lib.hid hv
  obtain ⟨sc, sx, se, rfl, a1, a2, a3⟩ := hv
  have HA := Lib.hid (And.intro a1 (And.intro a2 a3))
  obtain ⟨A1, n1, c1, e1, l1⟩ : ∃ A n c, sc = .slice A n c ∧ n = t.cps.length := by obtain ⟨A, c, e, _⟩ := a1.slice; exact ⟨A, _, c, e, rfl⟩
  obtain ⟨A2, n2, c2, e2, l2⟩ : ∃ A n c, sx = .slice A n c ∧ n = t.txs.length := by obtain ⟨A, c, e, _⟩ := a2.slice; exact ⟨A, _, c, e, rfl⟩
  obtain ⟨A3, n3, c3, e3, l3⟩ : ∃ A n c, se = .slice A n c ∧ n = t.his.length := by obtain ⟨A, c, e, _⟩ := a3.slice; exact ⟨A, _, c, e, rfl⟩
  subst e1 e2 e3
  have HL := Lib.hid (And.intro l1 (And.intro l2 l3))
  obtain ⟨W0, hW0⟩ : ∃ W, W = w.alloc (.cells (tkA t (.slice A1 n1 c1) (.slice A2 n2 c2) (.slice A3 n3 c3)) 27) := ⟨_, rfl⟩
  have HB : Hid (Fr (fun _ => False) w W0 ∧ Blk W0 w.heap.size 27 (tkA t (.slice A1 n1 c1) (.slice A2 n2 c2) (.slice A3 n3 c3)) ∧ W0.heap.size = w.heap.size + 1) := Lib.hid (by rw [hW0]; exact ⟨(Fr.refl _ w).alloc _, Blk.new w _ _, Array.size_push _⟩)
  obtain ⟨W1, hW1⟩ : ∃ W, W = W0.alloc (.cells #[.int .i64 day] 3) := ⟨_, rfl⟩
  have HB1 : Hid (Fr (fun _ => False) W0 W1 ∧ Blk W1 W0.heap.size 3 #[.int .i64 day]) := Lib.hid (by rw [hW1]; exact ⟨(Fr.refl _ W0).alloc _, Blk.new W0 _ _⟩)
  rw [hW0] at hW1
  have HQ : Hid (W1 = (w.alloc (.cells (tkA t (.slice A1 n1 c1) (.slice A2 n2 c2) (.slice A3 n3 c3)) 27)).alloc (.cells #[.int .i64 day] 3)) := Lib.hid hW1
  have HS0 : Hid (W0.heap.size = w.heap.size + 1) := Lib.hid HB.out.2.2
  have HMT := Lib.hid (fun W f => pmayt_any (w := W) (HV.out.keep0 f) hok hl)
  have HBL := Lib.hid (HB.out.2.1.keep HB1.out.1 (fun q => q))
  have HF := Lib.hid (HB.out.1.trans HB1.out.1 (fun _ _ q => q))
  have HG : Hid (Blk W1 (w.heap.size + 1) 3 #[.int .i64 day]) := Lib.hid (by rw [← HS0.out]; exact HB1.out.2)
  clear a1 a2 a3 l1 l2 l3 hW0 hW1 hok hl hR
  go_enter Try.func20, Try.ntmps20
  go_upto_region 1 with fail
  rw [← HQ.out]
  clear HQ
  cases e0 : mayT t with
  | false =>
    rw [e0] at HMT
    obtain rfl : R = [] := by rw [HR.out, e0]; rfl
    go_wp2_with (refine wpList_load_mid rfl 27 (.tmp 2) rfl w.heap.size 0 rfl (tkA t (.slice A1 n1 c1) (.slice A2 n2 c2) (.slice A3 n3 c3)).toList _ (blk_range HBL.out) Try.underlying27 rfl infoTk ?_)
    refine (HMT.out _ HF.out).mono ?_
    rintro e w1 ⟨rfl, f1⟩
    have HF1 := Lib.hid (HF.out.trans f1 (fun _ _ q => q))
    clear f1
    go_wp2_with fail
    go_ret
    exact ⟨_, rfl, RowS.nil _ _, HF1.out⟩
  | true =>
    rw [e0] at HMT
    obtain ⟨now, was, d, hE, hth⟩ := may_then e0 day
    obtain rfl : R = was := by rw [HR.out, e0, if_pos rfl, hth]; rfl
    have HIN := Lib.hid (may_in e0)
    rw [← HL.out.1] at hE
    have HE := Lib.hid hE
    clear e0 hE hth
    go_wp2_with (refine wpList_load_mid rfl 27 (.tmp 2) rfl w.heap.size 0 rfl (tkA t (.slice A1 n1 c1) (.slice A2 n2 c2) (.slice A3 n3 c3)).toList _ (blk_range HBL.out) Try.underlying27 rfl infoTk ?_)
    refine (HMT.out _ HF.out).mono ?_
    rintro e w1 ⟨rfl, f1⟩
    have HF1 := Lib.hid (HF.out.trans f1 (fun _ _ q => q))
    have HBL1 := Lib.hid (HBL.out.keep f1 (fun q => q))
    have HG1 := Lib.hid (HG.out.keep f1 (fun q => q))
    clear f1 HMT HBL HG
    have HBE := Lib.hid (pbeh_a (w := w1) (t := t) (gl := w.heap.size + 1) (n1 := n1) (n2 := n2) (n3 := n3) (c1 := c1) (c2 := c2) (c3 := c3) (A1 := A1) (A2 := A2) (A3 := A3) day HE.out (fun W f => HV.out.keep0 (HF1.out.trans f (fun _ _ q => q))) HG1.out (by have := HIN.out.1; have := HL.out.1; omega) (by have := HIN.out.2.2.1; have := HL.out.2.2; omega))
    go_wp2_with (refine wpList_load_mid rfl 27 (.tmp 2) rfl w.heap.size 0 rfl (tkA t (.slice A1 n1 c1) (.slice A2 n2 c2) (.slice A3 n3 c3)).toList _ (blk_range HBL1.out) Try.underlying27 rfl infoTk ?_)
    refine HBE.out.mono ?_
    rintro e w2 ⟨va, rfl, hva, f2⟩
    have HX := Lib.hid (And.intro hva.out (HF1.out.trans f2 (fun _ _ q => q)))
    clear hva f2
    obtain ⟨bb, hbb⟩ : ∃ b, b = (t.his.all fun x => decide (x.dy ≤ day)) := ⟨_, rfl⟩
    rw [← hbb]
    clear hbb HBE
    go_wp2_with fail
    go_ret
    refine ⟨_, rfl, ?_, HX.out.2⟩
    have h9 := HX.out.1
    exact ⟨h9.1, h9.2.elim .inl (fun ⟨g, c, cs, q1, q2, q3⟩ => .inr ⟨g, c, cs, q1, Nat.le_trans HF1.out.size q2, q3⟩)⟩
end Go.Proofs.Ytmopkfjnjbimnaa
