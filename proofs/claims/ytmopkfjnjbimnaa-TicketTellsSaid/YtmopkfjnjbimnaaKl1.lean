/- The law TicketTells. -/
import Derived.Test.YtmopkfjnjbimnaaKl2
namespace Go.Proofs.Ytmopkfjnjbimnaa
open Go.RowKit

def upTo (t : TkD) (n : Int) : Int := ((t.cps.filter fun c => decide (c.st ≤ n)).map CpD.va).sum
theorem upTo_step (t : TkD) (n : Int) : upTo t n + sumT t [n + 1] = upTo t (n + 1) := by
  unfold upTo sumT
  induction t.cps with
  | nil => rfl
  | cons c l ih =>
    simp only [List.filter_cons, List.isEmpty_cons, Bool.false_or] at *
    by_cases h : c.st ≤ n
    · have h1 : c.st ≤ n + 1 := by omega
      have h2 : ¬ c.st = n + 1 := by omega
      simp [h, h1, h2] at *
      omega
    · by_cases h3 : c.st = n + 1
      · have hn : ¬ n + 1 ≤ n := by omega
        simp [h3, hn] at *
        omega
      · have h1 : ¬ c.st ≤ n + 1 := by omega
        simp [h, h1, h3] at *
        omega
theorem ms9 {k : Nat} {y : Int} (hy : y = (k : Int) + 1) (h : k < 9) : 10 - (y + 1).toNat < 10 - y.toNat := by omega
theorem upTo_none {t : TkD} (h : ∀ c ∈ t.cps, mayS c.st = true) : upTo t 0 = 0 := by
  unfold upTo
  rw [List.filter_eq_nil_iff.2 (fun c hc => by have := h c hc; unfold mayS at this; simp at this; simp; omega)]
  rfl
theorem upTo_all {t : TkD} (h : ∀ c ∈ t.cps, mayS c.st = true) : upTo t 9 = sumT t [] := by
  unfold upTo sumT
  rw [List.filter_eq_self.2 (fun c hc => by have := h c hc; unfold mayS at this; simp at this; simp; omega)]
  rw [show (fun c : CpD => ([] : List Int).isEmpty || ([] : List Int).contains c.st) = (fun _ => true) from rfl, List.filter_eq_self.2 (fun _ _ => rfl)]
theorem upTo_in {t : TkD} (hn : t.cps.length ≤ 4) (h : ∀ c ∈ t.cps, someB c.va = true) (n : Int) : 0 ≤ upTo t n ∧ upTo t n ≤ 4000000000000 := by
  have h1 := sum_fil t.cps (fun s => decide (s ≤ n)) h
  refine ⟨h1.1, Int.le_trans h1.2 ?_⟩
  have : (t.cps.length : Int) ≤ 4 := by omega
  omega
theorem may_st {t : TkD} (h : mayT t = true) : ∀ c ∈ t.cps, mayS c.st = true := by
  rw [mayT_eq] at h
  unfold coupsB at h
  simp only [Bool.and_eq_true, List.all_eq_true] at h
  intro c hc
  have h9 := h.1.1.2.2 c hc
  rw [cpB_w] at h9
  simp only [Bool.and_eq_true] at h9
  exact h9.1.2
theorem live_last {t : TkD} (h : ∀ c ∈ t.cps, mayS c.st = true) : liveT t = (t.cps.filter fun c => !lastS c.st).length := by
  unfold liveT
  congr 1
  refine List.filter_congr (fun c hc => ?_)
  have := h c hc
  unfold liveS lastS
  rw [this]
  simp
/-- Behind the last event's day the statuses are what they are. -/
theorem evsOn_all (till : Int) : ∀ (l : List EvT) (now was : List Int) (d : Int) (r : List Int × List Int × Int), evsOn till (now, was, d) l = some r → now = was → (∀ x ∈ l, x.dy ≤ till) → r.1 = r.2.1 := by
  intro l
  induction l with
  | nil =>
    intro now was d r h e _
    simp only [evsOn, Option.some.injEq] at h
    subst h
    exact e
  | cons x l ih =>
    intro now was d r h e hl
    simp only [evsOn, evOn_G] at h
    by_cases g : tellG now d x = true
    · rw [if_pos g, Option.bind_some, if_pos (hl x (by simp))] at h
      exact ih _ _ _ _ h (by rw [e]) (fun y hy => hl y (by simp [hy]))
    · rw [if_neg g] at h
      cases h
theorem evsOn_last (till : Int) : ∀ (l : List EvT) (now was : List Int) (d : Int) (r : List Int × List Int × Int), evsOn till (now, was, d) l = some r → d ≤ r.2.2 ∧ (∀ x ∈ l, x.dy ≤ r.2.2) ∧ r.2.2 = (l.getLast?.map EvT.dy).getD d := by
  intro l
  induction l with
  | nil =>
    intro now was d r h
    simp only [evsOn, Option.some.injEq] at h
    subst h
    exact ⟨Int.le_refl _, (fun x hx => by cases hx), rfl⟩
  | cons x l ih =>
    intro now was d r h
    simp only [evsOn, evOn_G] at h
    by_cases g : tellG now d x = true
    · rw [if_pos g, Option.bind_some] at h
      have hd : d ≤ x.dy := by
        unfold tellG at g
        simp only [Bool.and_eq_true, decide_eq_true_eq] at g
        exact g.1.1
      obtain ⟨h1, h2, h3⟩ := ih _ _ _ _ h
      have h1' : x.dy ≤ r.2.2 := h1
      refine ⟨by omega, fun y hy => ?_, ?_⟩
      · rcases List.mem_cons.1 hy with rfl | hy
        · exact h1'
        · exact h2 y hy
      · rw [h3]
        cases l with
        | nil => rfl
        | cons y l => rw [List.getLast?_cons_cons]; cases hg : (y :: l).getLast? with
          | none => simp at hg
          | some z => rfl
    · rw [if_neg g] at h
      cases h
theorem then_now {t : TkD} (hm : mayT t = true) (day : Int) (hd : lastT t ≤ day) : (thenT t day).getD [] = t.cps.map CpD.st := by
  obtain ⟨now, was, d, hE, hth⟩ := may_then hm day
  have h1 := evsOn_last day _ _ _ _ _ hE
  have hl : lastT t = d := by unfold lastT; exact h1.2.2.symm
  have h2 := evsOn_all day _ _ _ _ _ hE rfl (fun x hx => by have := h1.2.1 x hx; show x.dy ≤ day; have h3 : x.dy ≤ d := this; omega)
  have h3 : now = was := h2
  rw [then_st0, hE] at hth
  simp only at hth
  by_cases hn : now = t.cps.map CpD.st
  · rw [then_st0, hE]
    simp only
    rw [if_pos hn]
    show was = _
    rw [← h3, hn]
  · rw [if_neg hn] at hth
    cases hth
theorem then_len {t : TkD} (hm : mayT t = true) (day : Int) : ((thenT t day).getD []).length = t.cps.length ∧ (thenT t day).isSome = true := by
  obtain ⟨now, was, d, hE, hth⟩ := may_then hm day
  rw [hth]
  have := evsOn_len day _ _ _ hE
  refine ⟨?_, rfl⟩
  show was.length = _
  have h2 : was.length = (List.replicate t.cps.length (1 : Int)).length := this.2
  rw [h2, List.length_replicate]
set_option maxRecDepth 100000 in
set_option maxHeartbeats 16000000 in
theorem ttells {w : World} {v u : Value} {t : TkD} {l : List Int} (hv : TkV w v t) (hok : TkOk t) (hu : IntsAt w u l) (day : Int) : Calls Try.prog 6 #[v, u, .int .i64 day] w (Tru w) := by
  have HU := Lib.hid hu
  obtain ⟨Au, nu, cu, eu, lu⟩ : ∃ A n c, u = .slice A n c ∧ n = l.length := by obtain ⟨A, c, e, _⟩ := hu; exact ⟨A, _, c, e, rfl⟩
  subst eu
  have HLU := Lib.hid lu
  have HV := Lib.hid hv
  obtain ⟨sc, sx, se, rfl, a1, a2, a3⟩ := hv
  have HA := Lib.hid (And.intro a1 (And.intro a2 a3))
  obtain ⟨A1, n1, c1, e1, l1⟩ : ∃ A n c, sc = .slice A n c ∧ n = t.cps.length := by obtain ⟨A, c, e, _⟩ := a1.slice; exact ⟨A, _, c, e, rfl⟩
  obtain ⟨A2, n2, c2, e2, l2⟩ : ∃ A n c, sx = .slice A n c ∧ n = t.txs.length := by obtain ⟨A, c, e, _⟩ := a2.slice; exact ⟨A, _, c, e, rfl⟩
  obtain ⟨A3, n3, c3, e3, l3⟩ : ∃ A n c, se = .slice A n c ∧ n = t.his.length := by obtain ⟨A, c, e, _⟩ := a3.slice; exact ⟨A, _, c, e, rfl⟩
  subst e1 e2 e3
  have HL := Lib.hid (And.intro l1 (And.intro l2 l3))
  obtain ⟨W0, hW0⟩ : ∃ W, W = w.alloc (.cells (tkA t (.slice A1 n1 c1) (.slice A2 n2 c2) (.slice A3 n3 c3)) 27) := ⟨_, rfl⟩
  have HB : Hid (Fr (fun _ => False) w W0 ∧ Blk W0 w.heap.size 27 (tkA t (.slice A1 n1 c1) (.slice A2 n2 c2) (.slice A3 n3 c3)) ∧ W0.heap.size = w.heap.size + 1) := Lib.hid (by rw [hW0]; exact ⟨(Fr.refl _ w).alloc _, Blk.new w _ _, Array.size_push _⟩)
  have HQ := Lib.hid hW0
  have HT := Lib.hid hok
  have HMU := Lib.hid (fun W f => rmuch_any (w := W) (HV.out.keep0 f))
  have HKN := Lib.hid (fun W => known_any W)
  have HBL := Lib.hid HB.out.2.1
  clear a1 a2 a3 l1 l2 l3 hW0 hok hu lu
  go_enter Try.func6, Try.ntmps6
  go_upto_region 1 with fail
  rw [← HQ.out]
  clear HQ
  have HF0 := Lib.hid (Fr.refl (fun _ => False) W0)
  cases e0 : muchT t with
  | true =>
    rw [e0] at HMU
    go_wp2_with (refine wpList_load_mid rfl 27 (.tmp 3) rfl w.heap.size 0 rfl (tkA t (.slice A1 n1 c1) (.slice A2 n2 c2) (.slice A3 n3 c3)).toList _ (blk_range HBL.out) Try.underlying27 rfl infoTk ?_)
    refine (HMU.out _ HB.out.1).mono ?_
    rintro e w1 ⟨rfl, f1⟩
    have HF1 := Lib.hid (HB.out.1.trans f1 (fun _ _ q => q))
    clear f1
    go_wp2_with fail
    refine (HKN.out _).mono ?_
    rintro e wk ⟨rfl, fk⟩
    have HFK := Lib.hid (HF1.out.trans fk (fun _ _ q => q))
    clear fk
    go_wp2_with fail
    go_ret
    exact ⟨rfl, HFK.out⟩
  | false =>
    rw [e0] at HMU
    have HSM := Lib.hid (much_small e0)
    clear e0
    go_wp2_with (refine wpList_load_mid rfl 27 (.tmp 3) rfl w.heap.size 0 rfl (tkA t (.slice A1 n1 c1) (.slice A2 n2 c2) (.slice A3 n3 c3)).toList _ (blk_range HBL.out) Try.underlying27 rfl infoTk ?_)
    refine (HMU.out _ HB.out.1).mono ?_
    rintro e w1 ⟨rfl, f1⟩
    have HF1 := Lib.hid f1
    clear f1 HMU HBL
    by_cases g0 : 20 < nu
    · have q0 : (20 : Int) < (nu : Int) := by omega
      have HF2 := Lib.hid (HB.out.1.trans HF1.out (fun _ _ q => q))
      go_wp2_with fail
      refine (HKN.out _).mono ?_
      rintro e wk ⟨rfl, fk⟩
      have HFK := Lib.hid (HF2.out.trans fk (fun _ _ q => q))
      clear fk
      go_wp2_with fail
      go_ret
      exact ⟨rfl, HFK.out⟩
    · have q0 : ¬ (20 : Int) < (nu : Int) := by omega
      have HNU : Hid (l.length ≤ 1000 ∧ l.length ≤ 100000) := Lib.hid (by have := HLU.out; omega)
      have hnu : nu ≤ 20 := by omega
      clear g0
      have HBL := Lib.hid (HB.out.2.1.keep HF1.out (fun q => q))
      go_wp2_with (refine wpList_load_mid rfl 27 (.tmp 3) rfl w.heap.size 0 rfl (tkA t (.slice A1 n1 c1) (.slice A2 n2 c2) (.slice A3 n3 c3)).toList _ (blk_range HBL.out) Try.underlying27 rfl infoTk ?_)
      clear HBL
      refine (pat_any (HV.out.keep0 (HB.out.1.trans HF1.out (fun _ _ q => q))) HT.out (by have := HSM.out; omega) day).mono ?_
      rintro e w2 ⟨ua, rfl, hua, f2⟩
      have HF2 := Lib.hid (HF1.out.trans f2 (fun _ _ q => q))
      have HUA := Lib.hid hua.ints
      clear f2 hua HF1
      have HBL := Lib.hid (HB.out.2.1.keep HF2.out (fun q => q))
      have HMA := Lib.hid (rmayt_any (HV.out.keep0 (HB.out.1.trans HF2.out (fun _ _ q => q))) HT.out (by have := HSM.out; omega))
      obtain ⟨Aa, na, ca, ea, ena⟩ : ∃ A n c, ua = .slice A n c ∧ n = (if mayT t = true then (thenT t day).getD [] else []).length := by obtain ⟨A, c, e, _⟩ := HUA.out; exact ⟨A, _, c, e, rfl⟩
      subst ea
      have HVL := Lib.hid (fun W F9 => pvalue_any (w := W) (u := .slice Au nu cu) (l := l) (HV.out.keep0 (HB.out.1.trans F9 (fun _ _ q => q))) HT.out (by have := HSM.out; omega) (ints_keep0 HU.out (HB.out.1.trans F9 (fun _ _ q => q))) HNU.out.1)
      have HTX := Lib.hid (fun W F9 => ptaxs_any (w := W) (HV.out.keep0 (HB.out.1.trans F9 (fun _ _ q => q))) HT.out (by have := HSM.out; omega))
      have HLI := Lib.hid (fun W F9 => plivet_any (w := W) (HV.out.keep0 (HB.out.1.trans F9 (fun _ _ q => q))) HT.out (by have := HSM.out; omega))
      cases e1 : mayT t with
      | false =>
        rw [e1] at HMA
        simp only [e1, Bool.false_eq_true, if_false] at HVL HTX HLI
        obtain rfl : na = 0 := by rw [ena, e1]; rfl
        clear ena e1
        go_wp2_with (refine wpList_load_mid rfl 27 (.tmp 3) rfl w.heap.size 0 rfl (tkA t (.slice A1 n1 c1) (.slice A2 n2 c2) (.slice A3 n3 c3)).toList _ (blk_range HBL.out) Try.underlying27 rfl infoTk ?_)
        refine HMA.out.mono ?_
        rintro e w3 ⟨rfl, f3⟩
        have HF3 := Lib.hid (HF2.out.trans f3 (fun _ _ q => q))
        clear f3 HMA HBL
        have HBL := Lib.hid (HB.out.2.1.keep HF3.out (fun q => q))
        go_wp2_with (first | (refine wpList_load_mid rfl 27 (.tmp 3) rfl w.heap.size 0 rfl (tkA t (.slice A1 n1 c1) (.slice A2 n2 c2) (.slice A3 n3 c3)).toList _ (blk_range HBL.out) Try.underlying27 rfl infoTk ?_) | (refine wpList_load_want (by rfl) 27 (.tmp 3) rfl w.heap.size 0 rfl (tkA t (.slice A1 n1 c1) (.slice A2 n2 c2) (.slice A3 n3 c3)).toList _ (blk_range HBL.out) Try.underlying27 rfl infoTk ?_))
        refine (HVL.out _ HF3.out).mono ?_
        rintro e w4 ⟨rfl, f4⟩
        have HF4 := Lib.hid (HF3.out.trans f4 (fun _ _ q => q))
        clear f4 HBL
        have HBL := Lib.hid (HB.out.2.1.keep HF4.out (fun q => q))
        go_wp2_with (first | (refine wpList_load_mid rfl 27 (.tmp 3) rfl w.heap.size 0 rfl (tkA t (.slice A1 n1 c1) (.slice A2 n2 c2) (.slice A3 n3 c3)).toList _ (blk_range HBL.out) Try.underlying27 rfl infoTk ?_) | (refine wpList_load_want (by rfl) 27 (.tmp 3) rfl w.heap.size 0 rfl (tkA t (.slice A1 n1 c1) (.slice A2 n2 c2) (.slice A3 n3 c3)).toList _ (blk_range HBL.out) Try.underlying27 rfl infoTk ?_))
        refine (HTX.out _ HF4.out).mono ?_
        rintro e w5 ⟨rfl, f5⟩
        have HF5 := Lib.hid (HF4.out.trans f5 (fun _ _ q => q))
        clear f5 HBL
        have HBL := Lib.hid (HB.out.2.1.keep HF5.out (fun q => q))
        go_wp2_with (first | (refine wpList_load_mid rfl 27 (.tmp 3) rfl w.heap.size 0 rfl (tkA t (.slice A1 n1 c1) (.slice A2 n2 c2) (.slice A3 n3 c3)).toList _ (blk_range HBL.out) Try.underlying27 rfl infoTk ?_) | (refine wpList_load_want (by rfl) 27 (.tmp 3) rfl w.heap.size 0 rfl (tkA t (.slice A1 n1 c1) (.slice A2 n2 c2) (.slice A3 n3 c3)).toList _ (blk_range HBL.out) Try.underlying27 rfl infoTk ?_))
        refine (HLI.out _ HF5.out).mono ?_
        rintro e w6 ⟨rfl, f6⟩
        have HF6 := Lib.hid (HB.out.1.trans (HF5.out.trans f6 (fun _ _ q => q)) (fun _ _ q => q))
        clear f6 HBL
        go_wp2_with fail
        refine (HKN.out _).mono ?_
        rintro e wk ⟨rfl, fk⟩
        have HFK := Lib.hid (HF6.out.trans fk (fun _ _ q => q))
        clear fk
        go_wp2_with fail
        go_ret
        exact ⟨rfl, HFK.out⟩
      | true =>
        rw [e1] at HMA
        simp only [e1, if_true] at HVL HTX HLI
        have hna : na = t.cps.length := by rw [ena, e1, if_pos rfl]; exact (then_len e1 day).1
        have HUB : Hid (IntsAt w2 (.slice Aa na ca) ((thenT t day).getD [])) := Lib.hid (by have h9 := HUA.out; rw [e1, if_pos rfl] at h9; exact h9)
        have HE1 := Lib.hid e1
        have HIN := Lib.hid (may_in e1)
        have HST := Lib.hid (may_st e1)
        obtain rfl : na = n1 := by rw [hna, HL.out.1]
        clear ena e1 HUA hna
        go_wp2_with (refine wpList_load_mid rfl 27 (.tmp 3) rfl w.heap.size 0 rfl (tkA t (.slice A1 na c1) (.slice A2 n2 c2) (.slice A3 n3 c3)).toList _ (blk_range HBL.out) Try.underlying27 rfl infoTk ?_)
        refine HMA.out.mono ?_
        rintro e w3 ⟨rfl, f3⟩
        have HF3 := Lib.hid (HF2.out.trans f3 (fun _ _ q => q))
        have HUC := Lib.hid (ints_keep0 HUB.out f3)
        clear f3 HMA HBL HUB HF2
        have m1 : na ≤ 4 := by rw [HL.out.1]; exact HIN.out.1.2
        have hx3 : w3.cell? ⟨w.heap.size, 3, none⟩ = some (.slice A1 na c1) := cp_cell (HB.out.2.1.keep HF3.out (fun q => q)) 3 rfl
        go_wp2_with fail
        clear hx3
        go_loopw [8, 9] (fun s x wr => ∃ k m : Nat, s = .int .i64 m ∧ x = .int .i64 k ∧ k ≤ na ∧ m ≤ k ∧ Hid (m = ((t.cps.take k).filter fun c => !lastS c.st).length) ∧ Hid (Fr (fun _ => False) w3 wr)) (fun _ x _ => na - (intOf x).toNat)
        case atStart => exact ⟨0, 0, rfl, rfl, Nat.zero_le _, Nat.le_refl _, Lib.hid rfl, Lib.hid (Fr.refl _ _)⟩
        case round =>
          obtain ⟨k, m, rfl, rfl, hk, hmk, HM, HF⟩ := hrel
          have hx3 : wr.cell? ⟨w.heap.size, 3, none⟩ = some (.slice A1 na c1) := cp_cell (HB.out.2.1.keep (HF3.out.trans HF.out (fun _ _ q => q)) (fun q => q)) 3 rfl
          by_cases hlt : k < na
          · obtain ⟨x1, hx⟩ : ∃ x, t.cps[k]? = some x := ⟨_, List.getElem?_eq_getElem (by rw [← HL.out.1]; exact hlt)⟩
            obtain ⟨b2, o2, cc2, e2, hc2⟩ := HA.out.1.cell hx
            injection e2 with e2 e2n e2c
            subst e2
            have hy1 : wr.cell? ⟨b2, o2 + k * 6 + 3, none⟩ = some (.int .i64 x1.st) := by have h5 := hc2 3 _ rfl; exact ((HB.out.1.trans (HF3.out.trans HF.out (fun _ _ q => q)) (fun _ _ q => q)).cell (World.block_lt_of_cell? w _ h5) (fun q => q)).trans h5
            have hk0 : (0 : Int) ≤ (k : Int) := by omega
            have hkm : (k : Int) < (na : Int) := by omega
            have hnx : ((t.cps.take (k + 1)).filter fun c => !lastS c.st).length = m + (if lastS x1.st = true then 0 else 1) := by
              rw [take_succ' hx, List.filter_append, List.length_append, ← HM.out]
              by_cases h : lastS x1.st = true
              · simp [h]
              · simp [h]
            have HNX := Lib.hid (And.intro hnx hlt)
            have HLS := Lib.hid (fun W => rlast_any x1.st W)
            clear hx hc2 e2n e2c hlt hnx
            cases e3 : lastS x1.st with
            | true =>
              rw [e3] at HLS
              have HE3 := Lib.hid e3
              clear e3
              go_wp2_with fail
              refine (HLS.out _).mono ?_
              rintro e w4 ⟨rfl, f4⟩
              have HF4 := Lib.hid (HF.out.trans f4 (fun _ _ q => q))
              clear f4
              go_wp2_with fail
              refine ⟨⟨k + 1, m, rfl, by go_num, by have := HNX.out.2; omega, by omega, Lib.hid (by rw [HNX.out.1, if_pos HE3.out]; rfl), HF4⟩, ?_⟩
              simp [intOf]
              have := HNX.out.2
              omega
            | false =>
              rw [e3] at HLS
              have HE3 := Lib.hid e3
              clear e3
              go_wp2_with fail
              refine (HLS.out _).mono ?_
              rintro e w4 ⟨rfl, f4⟩
              have HF4 := Lib.hid (HF.out.trans f4 (fun _ _ q => q))
              clear f4
              go_wp2_with fail
              refine ⟨⟨k + 1, m + 1, by go_num, by go_num, by have := HNX.out.2; omega, by omega, Lib.hid (by rw [HNX.out.1, if_neg (by rw [HE3.out]; simp)]), HF4⟩, ?_⟩
              simp [intOf]
              have := HNX.out.2
              omega
          · obtain rfl : na = k := by omega
            have hkk : ¬ (na : Int) < (na : Int) := by omega
            have HLT : Hid (liveT t = m) := Lib.hid (by
              rw [live_last HST.out, HM.out, List.take_of_length_le (by rw [← HL.out.1]; exact Nat.le_refl _)])
            clear hlt hk HM
            generalize wr = w5 at *
            have HF5 := Lib.hid (HF3.out.trans HF.out (fun _ _ q => q))
            have HUD := Lib.hid (ints_keep0 HUC.out HF.out)
            clear HF HUC HF3
            have HBL := Lib.hid (HB.out.2.1.keep HF5.out (fun q => q))
            go_wp2_with (refine wpList_load_mid rfl 27 (.tmp 3) rfl w.heap.size 0 rfl (tkA t (.slice A1 na c1) (.slice A2 n2 c2) (.slice A3 n3 c3)).toList _ (blk_range HBL.out) Try.underlying27 rfl infoTk ?_)
            clear hx3 hkk HBL
            refine (rthen_any day (HV.out.keep0 (HB.out.1.trans HF5.out (fun _ _ q => q))) HT.out (by have := HSM.out; omega) (by have := HSM.out; omega)).mono ?_
            rintro e w6 ⟨u6, rfl, hu6, f6⟩
            obtain ⟨A6, c6, e6, hl6, -⟩ : ∃ A c, u6 = .slice A ((thenT t day).getD []).length c ∧ True ∧ True := by obtain ⟨A, c, e, _⟩ := hu6; exact ⟨A, c, e, trivial, trivial⟩
            rw [(then_len HE1.out day).1, ← HL.out.1] at e6
            subst e6
            have HF6 := Lib.hid (HF5.out.trans f6 (fun _ _ q => q))
            have HUE := Lib.hid (And.intro (ints_keep0 HUD.out f6) hu6)
            rw [(then_len HE1.out day).2]
            clear f6 hu6 HUD HF5 hl6
            have q9 : ((na : Int) != (na : Int)) = false := by simp
            go_wp2_with fail
            clear q9
            go_loopw [12] (fun x wr => ∃ k : Nat, x = .int .i64 k ∧ k ≤ na ∧ Hid (Fr (fun _ => False) w6 wr)) (fun x _ => na - (intOf x).toNat)
            case atStart => exact ⟨0, rfl, Nat.zero_le _, Lib.hid (Fr.refl _ _)⟩
            case round =>
              obtain ⟨k, rfl, hk, HF⟩ := hrel
              by_cases hlt : k < na
              · obtain ⟨x1, hx⟩ : ∃ x, t.cps[k]? = some x := ⟨_, List.getElem?_eq_getElem (by rw [← HL.out.1]; exact hlt)⟩
                obtain ⟨b2, o2, cc2, e2, hc2⟩ := HA.out.1.cell hx
                injection e2 with e2 e2n e2c
                subst e2
                obtain ⟨z, hz⟩ : ∃ z, ((thenT t day).getD [])[k]? = some z := ⟨_, List.getElem?_eq_getElem (by rw [(then_len HE1.out day).1, ← HL.out.1]; exact hlt)⟩
                obtain ⟨A9, c9, e9, _, hi9⟩ := HUE.out.1
                injection e9 with e9 e9n e9c
                subst e9
                obtain ⟨b3, o3, e3, hi3⟩ := hi9 (by rw [(then_len HE1.out day).1, ← HL.out.1]; omega)
                obtain ⟨A8, c8, e8, _, hi8⟩ := HUE.out.2
                injection e8 with e8 e8n e8c
                subst e8
                obtain ⟨b4, o4, e4, hi4⟩ := hi8 (by rw [(then_len HE1.out day).1, ← HL.out.1]; omega)
                subst e3 e4
                have h3 := hi3 k z hz
                have h4 := hi4 k z hz
                have h2 := hc2 3 _ rfl
                have HC3 : Hid (∀ W, Fr (fun _ => False) wr W → W.cell? ⟨b3, o3 + k, none⟩ = some (.int .i64 z)) := Lib.hid (fun W f => ((HF.out.trans f (fun _ _ q => q)).cell (World.block_lt_of_cell? _ _ h3) (fun q => q)).trans h3)
                have HC4 : Hid (∀ W, Fr (fun _ => False) wr W → W.cell? ⟨b4, o4 + k, none⟩ = some (.int .i64 z)) := Lib.hid (fun W f => ((HF.out.trans f (fun _ _ q => q)).cell (World.block_lt_of_cell? _ _ h4) (fun q => q)).trans h4)
                have HC2 : Hid (∀ W, Fr (fun _ => False) wr W → W.cell? ⟨b2, o2 + k * 6 + 3, none⟩ = some (.int .i64 x1.st)) := Lib.hid (fun W f => ((HB.out.1.trans (HF6.out.trans (HF.out.trans f (fun _ _ q => q)) (fun _ _ q => q)) (fun _ _ q => q)).cell (World.block_lt_of_cell? _ _ h2) (fun q => q)).trans h2)
                have HBX : Hid (∀ W, Fr (fun _ => False) wr W → Blk W w.heap.size 27 (tkA t (.slice (some ⟨b2, o2, none⟩) na c1) (.slice A2 n2 c2) (.slice A3 n3 c3))) := Lib.hid (fun W f => HB.out.2.1.keep (HF6.out.trans (HF.out.trans f (fun _ _ q => q)) (fun _ _ q => q)) (fun q => q))
                have HK : Hid ((0 : Int) ≤ (k : Int) ∧ (k : Int) < (na : Int) ∧ k < na) := Lib.hid ⟨by omega, by omega, hlt⟩
                have HZZ : Hid ((z != z) = false) := Lib.hid (by simp)
                have HLA := Lib.hid (fun W f => rlastt_any (w := W) (HV.out.keep0 (HB.out.1.trans (HF6.out.trans (HF.out.trans f (fun _ _ q => q)) (fun _ _ q => q)) (fun _ _ q => q))) (by have := HSM.out; omega))
                have hnow : lastT t ≤ day → z = x1.st := fun q => by
                  rw [then_now HE1.out day q, List.getElem?_map, hx] at hz
                  simpa using hz.symm
                obtain ⟨la, hla⟩ : ∃ z, z = lastT t := ⟨_, rfl⟩
                rw [← hla] at hnow HLA
                clear hx hc2 e2n e2c hlt hz e9n e9c hi9 hi3 e8n e8c hi8 hi4 h3 h4 h2 hla
                by_cases hd : la ≤ day
                · have hzx := hnow hd
                  have HZX : Hid ((z != x1.st) = false) := Lib.hid (by rw [bne_eq_false_iff_eq]; exact hzx)
                  have HDD : Hid (day ≥ la) := Lib.hid hd
                  clear hnow hd hzx
                  have hkm := HK.out.2.1
                  go_wp2_with fail
                  clear hkm
                  refine wp_region_held_drew (S := fun w' => Fr (fun _ => False) wr w') (by kernel_rfl) ((Fr.refl _ wr).drew) (fun hS0 => ?_)
                  refine anyH_take 0 85 (.slice (some ⟨b3, o3, none⟩) na ca) rfl rfl (by kernel_rfl) (by kernel_rfl) (by kernel_rfl) (fun _ _ _ h => h) (.inl ⟨by rfl, fun w'' hS => by go_simp⟩) hS0 ?_
                  (simp only [List.setIfInBounds_toArray, List.set_cons_zero, List.set_cons_succ])
                  refine anyH_take 1 86 (.int .i64 (k : Nat)) rfl rfl (by kernel_rfl) (by kernel_rfl) (by kernel_rfl) (fun _ _ _ h => h) (.inl ⟨by rfl, fun w'' hS => by go_simp⟩) hS0 ?_
                  (simp only [List.setIfInBounds_toArray, List.set_cons_zero, List.set_cons_succ])
                  refine anyH_take 2 87 (.pointer (some ⟨b3, o3 + k, none⟩)) rfl rfl (by kernel_rfl) (by kernel_rfl) (by kernel_rfl) (fun _ _ _ h => h) (.inl ⟨by rfl, fun w'' hS => by have q0 := HK.out.1; have q1 := HK.out.2.1; go_simp⟩) hS0 ?_
                  (simp only [List.setIfInBounds_toArray, List.set_cons_zero, List.set_cons_succ])
                  refine anyH_take 3 88 (.int .i64 z) rfl rfl (by kernel_rfl) (by kernel_rfl) (by kernel_rfl) (fun _ _ _ h => h) (.inl ⟨by rfl, fun w'' hS => by have q0 := HC3.out _ hS; go_simp⟩) hS0 ?_
                  (simp only [List.setIfInBounds_toArray, List.set_cons_zero, List.set_cons_succ])
                  refine anyH_take 4 89 (.slice (some ⟨b4, o4, none⟩) na c6) rfl rfl (by kernel_rfl) (by kernel_rfl) (by kernel_rfl) (fun _ _ _ h => h) (.inl ⟨by rfl, fun w'' hS => by go_simp⟩) hS0 ?_
                  (simp only [List.setIfInBounds_toArray, List.set_cons_zero, List.set_cons_succ])
                  refine anyH_take 5 90 (.int .i64 (k : Nat)) rfl rfl (by kernel_rfl) (by kernel_rfl) (by kernel_rfl) (fun _ _ _ h => h) (.inl ⟨by rfl, fun w'' hS => by go_simp⟩) hS0 ?_
                  (simp only [List.setIfInBounds_toArray, List.set_cons_zero, List.set_cons_succ])
                  refine anyH_take 6 91 (.pointer (some ⟨b4, o4 + k, none⟩)) rfl rfl (by kernel_rfl) (by kernel_rfl) (by kernel_rfl) (fun _ _ _ h => h) (.inl ⟨by rfl, fun w'' hS => by have q0 := HK.out.1; have q1 := HK.out.2.1; go_simp⟩) hS0 ?_
                  (simp only [List.setIfInBounds_toArray, List.set_cons_zero, List.set_cons_succ])
                  refine anyH_take 7 92 (.int .i64 z) rfl rfl (by kernel_rfl) (by kernel_rfl) (by kernel_rfl) (fun _ _ _ h => h) (.inl ⟨by rfl, fun w'' hS => by have q0 := HC4.out _ hS; go_simp⟩) hS0 ?_
                  (simp only [List.setIfInBounds_toArray, List.set_cons_zero, List.set_cons_succ])
                  refine anyH_take 8 93 (.bool false) rfl rfl (by kernel_rfl) (by kernel_rfl) (by kernel_rfl) (fun _ _ _ h => h) (.inl ⟨by rfl, fun w'' hS => by have q0 := HZZ.out; go_simp⟩) hS0 ?_
                  (simp only [List.setIfInBounds_toArray, List.set_cons_zero, List.set_cons_succ])
                  refine anyH_take 9 94 (.bool false) rfl rfl (by kernel_rfl) (by kernel_rfl) (by kernel_rfl) (fun _ _ _ h => h) (.inl ⟨by rfl, fun w'' hS => by go_simp⟩) hS0 ?_
                  (simp only [List.setIfInBounds_toArray, List.set_cons_zero, List.set_cons_succ])
                  refine anyH_take 10 95 (.int .i64 day) rfl rfl (by kernel_rfl) (by kernel_rfl) (by kernel_rfl) (fun _ _ _ h => h) (.inl ⟨by rfl, fun w'' hS => by go_simp⟩) hS0 ?_
                  (simp only [List.setIfInBounds_toArray, List.set_cons_zero, List.set_cons_succ])
                  refine anyH_take 11 96 (.agg (tkA t (.slice (some ⟨b2, o2, none⟩) na c1) (.slice A2 n2 c2) (.slice A3 n3 c3))) rfl rfl (by kernel_rfl) (by kernel_rfl) (by kernel_rfl) (fun _ _ _ h => h) (yieldsIf_load_mid rfl 27 (.tmp 3) rfl w.heap.size 0 rfl (tkA t (.slice (some ⟨b2, o2, none⟩) na c1) (.slice A2 n2 c2) (.slice A3 n3 c3)).toList _ (fun w'' hS => blk_range (HBX.out _ hS)) Try.underlying27 rfl infoTk) hS0 ?_
                  (simp only [List.setIfInBounds_toArray, List.set_cons_zero, List.set_cons_succ])
                  refine anyH_one 12 97 (.int .i64 la) (by kernel_rfl) (tame_call 97 rfl rfl (by rfl) (fun w'' hS => by go_simp) (fun w'' hS => ((HLA.out w'' hS).mono fun e w3 he => ⟨he.1, hS.trans he.2 (fun _ _ q => q)⟩))) hS0 (fun wq0 hS0 => ?_)
                  (simp only [List.setIfInBounds_toArray, List.set_cons_zero, List.set_cons_succ])
                  refine anyH_take 13 98 (.bool true) rfl rfl (by kernel_rfl) (by kernel_rfl) (by kernel_rfl) (fun _ _ _ h => h) (.inl ⟨by rfl, fun w'' hS => by have q0 := HDD.out; go_simp⟩) hS0 ?_
                  (simp only [List.setIfInBounds_toArray, List.set_cons_zero, List.set_cons_succ])
                  refine anyH_take 14 99 (.bool true) rfl rfl (by kernel_rfl) (by kernel_rfl) (by kernel_rfl) (fun _ _ _ h => h) (.inl ⟨by rfl, fun w'' hS => by go_simp⟩) hS0 ?_
                  (simp only [List.setIfInBounds_toArray, List.set_cons_zero, List.set_cons_succ])
                  refine anyH_take 15 100 (.slice (some ⟨b3, o3, none⟩) na ca) rfl rfl (by kernel_rfl) (by kernel_rfl) (by kernel_rfl) (fun _ _ _ h => h) (.inl ⟨by rfl, fun w'' hS => by go_simp⟩) hS0 ?_
                  (simp only [List.setIfInBounds_toArray, List.set_cons_zero, List.set_cons_succ])
                  refine anyH_take 16 101 (.int .i64 (k : Nat)) rfl rfl (by kernel_rfl) (by kernel_rfl) (by kernel_rfl) (fun _ _ _ h => h) (.inl ⟨by rfl, fun w'' hS => by go_simp⟩) hS0 ?_
                  (simp only [List.setIfInBounds_toArray, List.set_cons_zero, List.set_cons_succ])
                  refine anyH_take 17 102 (.pointer (some ⟨b3, o3 + k, none⟩)) rfl rfl (by kernel_rfl) (by kernel_rfl) (by kernel_rfl) (fun _ _ _ h => h) (.inl ⟨by rfl, fun w'' hS => by have q0 := HK.out.1; have q1 := HK.out.2.1; go_simp⟩) hS0 ?_
                  (simp only [List.setIfInBounds_toArray, List.set_cons_zero, List.set_cons_succ])
                  refine anyH_take 18 103 (.int .i64 z) rfl rfl (by kernel_rfl) (by kernel_rfl) (by kernel_rfl) (fun _ _ _ h => h) (.inl ⟨by rfl, fun w'' hS => by have q0 := HC3.out _ hS; go_simp⟩) hS0 ?_
                  (simp only [List.setIfInBounds_toArray, List.set_cons_zero, List.set_cons_succ])
                  refine anyH_take 19 104 (.pointer (some ⟨w.heap.size, 3, none⟩)) rfl rfl (by kernel_rfl) (by kernel_rfl) (by kernel_rfl) (fun _ _ _ h => h) (.inl ⟨by rfl, fun w'' hS => by go_simp⟩) hS0 ?_
                  (simp only [List.setIfInBounds_toArray, List.set_cons_zero, List.set_cons_succ])
                  refine anyH_take 20 105 (.slice (some ⟨b2, o2, none⟩) na c1) rfl rfl (by kernel_rfl) (by kernel_rfl) (by kernel_rfl) (fun _ _ _ h => h) (.inl ⟨by rfl, fun w'' hS => by have q0 := cp_cell (HBX.out _ hS) 3 rfl; go_simp⟩) hS0 ?_
                  (simp only [List.setIfInBounds_toArray, List.set_cons_zero, List.set_cons_succ])
                  refine anyH_take 21 106 (.int .i64 (k : Nat)) rfl rfl (by kernel_rfl) (by kernel_rfl) (by kernel_rfl) (fun _ _ _ h => h) (.inl ⟨by rfl, fun w'' hS => by go_simp⟩) hS0 ?_
                  (simp only [List.setIfInBounds_toArray, List.set_cons_zero, List.set_cons_succ])
                  refine anyH_take 22 107 (.pointer (some ⟨b2, o2 + k * 6, none⟩)) rfl rfl (by kernel_rfl) (by kernel_rfl) (by kernel_rfl) (fun _ _ _ h => h) (.inl ⟨by rfl, fun w'' hS => by have q0 := HK.out.1; have q1 := HK.out.2.1; go_simp⟩) hS0 ?_
                  (simp only [List.setIfInBounds_toArray, List.set_cons_zero, List.set_cons_succ])
                  refine anyH_take 23 108 (.pointer (some ⟨b2, o2 + k * 6 + 3, none⟩)) rfl rfl (by kernel_rfl) (by kernel_rfl) (by kernel_rfl) (fun _ _ _ h => h) (.inl ⟨by rfl, fun w'' hS => by go_simp⟩) hS0 ?_
                  (simp only [List.setIfInBounds_toArray, List.set_cons_zero, List.set_cons_succ])
                  refine anyH_take 24 109 (.int .i64 x1.st) rfl rfl (by kernel_rfl) (by kernel_rfl) (by kernel_rfl) (fun _ _ _ h => h) (.inl ⟨by rfl, fun w'' hS => by have q0 := HC2.out _ hS; go_simp⟩) hS0 ?_
                  (simp only [List.setIfInBounds_toArray, List.set_cons_zero, List.set_cons_succ])
                  refine anyH_take 25 110 (.bool false) rfl rfl (by kernel_rfl) (by kernel_rfl) (by kernel_rfl) (fun _ _ _ h => h) (.inl ⟨by rfl, fun w'' hS => by have q0 := HZX.out; go_simp⟩) hS0 ?_
                  (simp only [List.setIfInBounds_toArray, List.set_cons_zero, List.set_cons_succ])
                  refine anyH_take 26 111 (.bool false) rfl rfl (by kernel_rfl) (by kernel_rfl) (by kernel_rfl) (fun _ _ _ h => h) (.inl ⟨by rfl, fun w'' hS => by go_simp⟩) hS0 ?_
                  (simp only [List.setIfInBounds_toArray, List.set_cons_zero, List.set_cons_succ])
                  refine anyH_take 27 112 (.bool false) rfl rfl (by kernel_rfl) (by kernel_rfl) (by kernel_rfl) (fun _ _ _ h => h) (.inl ⟨by rfl, fun w'' hS => by go_simp⟩) hS0 ?_
                  (simp only [List.setIfInBounds_toArray, List.set_cons_zero, List.set_cons_succ])
                  refine wpAnyH_done (by kernel_rfl) ?_ _
                  have HF2 := Lib.hid (HF.out.trans hS0 (fun _ _ q => q))
                  clear hS0
                  go_wp2_with fail
                  refine ⟨⟨k + 1, by go_num, by have := HK.out.2.2; omega, HF2⟩, ?_⟩
                  simp [intOf]
                  have := HK.out.2.2
                  omega
                · have HDD : Hid (¬ day ≥ la) := Lib.hid (by omega)
                  clear hnow hd
                  have hkm := HK.out.2.1
                  go_wp2_with fail
                  clear hkm
                  refine wp_region_held_drew (S := fun w' => Fr (fun _ => False) wr w') (by kernel_rfl) ((Fr.refl _ wr).drew) (fun hS0 => ?_)
                  refine anyH_take 0 85 (.slice (some ⟨b3, o3, none⟩) na ca) rfl rfl (by kernel_rfl) (by kernel_rfl) (by kernel_rfl) (fun _ _ _ h => h) (.inl ⟨by rfl, fun w'' hS => by go_simp⟩) hS0 ?_
                  (simp only [List.setIfInBounds_toArray, List.set_cons_zero, List.set_cons_succ])
                  refine anyH_take 1 86 (.int .i64 (k : Nat)) rfl rfl (by kernel_rfl) (by kernel_rfl) (by kernel_rfl) (fun _ _ _ h => h) (.inl ⟨by rfl, fun w'' hS => by go_simp⟩) hS0 ?_
                  (simp only [List.setIfInBounds_toArray, List.set_cons_zero, List.set_cons_succ])
                  refine anyH_take 2 87 (.pointer (some ⟨b3, o3 + k, none⟩)) rfl rfl (by kernel_rfl) (by kernel_rfl) (by kernel_rfl) (fun _ _ _ h => h) (.inl ⟨by rfl, fun w'' hS => by have q0 := HK.out.1; have q1 := HK.out.2.1; go_simp⟩) hS0 ?_
                  (simp only [List.setIfInBounds_toArray, List.set_cons_zero, List.set_cons_succ])
                  refine anyH_take 3 88 (.int .i64 z) rfl rfl (by kernel_rfl) (by kernel_rfl) (by kernel_rfl) (fun _ _ _ h => h) (.inl ⟨by rfl, fun w'' hS => by have q0 := HC3.out _ hS; go_simp⟩) hS0 ?_
                  (simp only [List.setIfInBounds_toArray, List.set_cons_zero, List.set_cons_succ])
                  refine anyH_take 4 89 (.slice (some ⟨b4, o4, none⟩) na c6) rfl rfl (by kernel_rfl) (by kernel_rfl) (by kernel_rfl) (fun _ _ _ h => h) (.inl ⟨by rfl, fun w'' hS => by go_simp⟩) hS0 ?_
                  (simp only [List.setIfInBounds_toArray, List.set_cons_zero, List.set_cons_succ])
                  refine anyH_take 5 90 (.int .i64 (k : Nat)) rfl rfl (by kernel_rfl) (by kernel_rfl) (by kernel_rfl) (fun _ _ _ h => h) (.inl ⟨by rfl, fun w'' hS => by go_simp⟩) hS0 ?_
                  (simp only [List.setIfInBounds_toArray, List.set_cons_zero, List.set_cons_succ])
                  refine anyH_take 6 91 (.pointer (some ⟨b4, o4 + k, none⟩)) rfl rfl (by kernel_rfl) (by kernel_rfl) (by kernel_rfl) (fun _ _ _ h => h) (.inl ⟨by rfl, fun w'' hS => by have q0 := HK.out.1; have q1 := HK.out.2.1; go_simp⟩) hS0 ?_
                  (simp only [List.setIfInBounds_toArray, List.set_cons_zero, List.set_cons_succ])
                  refine anyH_take 7 92 (.int .i64 z) rfl rfl (by kernel_rfl) (by kernel_rfl) (by kernel_rfl) (fun _ _ _ h => h) (.inl ⟨by rfl, fun w'' hS => by have q0 := HC4.out _ hS; go_simp⟩) hS0 ?_
                  (simp only [List.setIfInBounds_toArray, List.set_cons_zero, List.set_cons_succ])
                  refine anyH_take 8 93 (.bool false) rfl rfl (by kernel_rfl) (by kernel_rfl) (by kernel_rfl) (fun _ _ _ h => h) (.inl ⟨by rfl, fun w'' hS => by have q0 := HZZ.out; go_simp⟩) hS0 ?_
                  (simp only [List.setIfInBounds_toArray, List.set_cons_zero, List.set_cons_succ])
                  refine anyH_take 9 94 (.bool false) rfl rfl (by kernel_rfl) (by kernel_rfl) (by kernel_rfl) (fun _ _ _ h => h) (.inl ⟨by rfl, fun w'' hS => by go_simp⟩) hS0 ?_
                  (simp only [List.setIfInBounds_toArray, List.set_cons_zero, List.set_cons_succ])
                  refine anyH_take 10 95 (.int .i64 day) rfl rfl (by kernel_rfl) (by kernel_rfl) (by kernel_rfl) (fun _ _ _ h => h) (.inl ⟨by rfl, fun w'' hS => by go_simp⟩) hS0 ?_
                  (simp only [List.setIfInBounds_toArray, List.set_cons_zero, List.set_cons_succ])
                  refine anyH_take 11 96 (.agg (tkA t (.slice (some ⟨b2, o2, none⟩) na c1) (.slice A2 n2 c2) (.slice A3 n3 c3))) rfl rfl (by kernel_rfl) (by kernel_rfl) (by kernel_rfl) (fun _ _ _ h => h) (yieldsIf_load_mid rfl 27 (.tmp 3) rfl w.heap.size 0 rfl (tkA t (.slice (some ⟨b2, o2, none⟩) na c1) (.slice A2 n2 c2) (.slice A3 n3 c3)).toList _ (fun w'' hS => blk_range (HBX.out _ hS)) Try.underlying27 rfl infoTk) hS0 ?_
                  (simp only [List.setIfInBounds_toArray, List.set_cons_zero, List.set_cons_succ])
                  refine anyH_one 12 97 (.int .i64 la) (by kernel_rfl) (tame_call 97 rfl rfl (by rfl) (fun w'' hS => by go_simp) (fun w'' hS => ((HLA.out w'' hS).mono fun e w3 he => ⟨he.1, hS.trans he.2 (fun _ _ q => q)⟩))) hS0 (fun wq0 hS0 => ?_)
                  (simp only [List.setIfInBounds_toArray, List.set_cons_zero, List.set_cons_succ])
                  refine anyH_take 13 98 (.bool false) rfl rfl (by kernel_rfl) (by kernel_rfl) (by kernel_rfl) (fun _ _ _ h => h) (.inl ⟨by rfl, fun w'' hS => by have q0 := HDD.out; go_simp⟩) hS0 ?_
                  (simp only [List.setIfInBounds_toArray, List.set_cons_zero, List.set_cons_succ])
                  refine anyH_take 14 99 (.bool false) rfl rfl (by kernel_rfl) (by kernel_rfl) (by kernel_rfl) (fun _ _ _ h => h) (.inl ⟨by rfl, fun w'' hS => by go_simp⟩) hS0 ?_
                  (simp only [List.setIfInBounds_toArray, List.set_cons_zero, List.set_cons_succ])
                  refine anyH_take 15 100 undef rfl rfl (by kernel_rfl) (by kernel_rfl) (by kernel_rfl) (fun _ _ _ h => h) (.inr ⟨by rfl, rfl⟩) hS0 ?_
                  (simp only [List.setIfInBounds_toArray, List.set_cons_zero, List.set_cons_succ])
                  refine anyH_take 16 101 undef rfl rfl (by kernel_rfl) (by kernel_rfl) (by kernel_rfl) (fun _ _ _ h => h) (.inr ⟨by rfl, rfl⟩) hS0 ?_
                  (simp only [List.setIfInBounds_toArray, List.set_cons_zero, List.set_cons_succ])
                  refine anyH_take 17 102 undef rfl rfl (by kernel_rfl) (by kernel_rfl) (by kernel_rfl) (fun _ _ _ h => h) (.inr ⟨by rfl, rfl⟩) hS0 ?_
                  (simp only [List.setIfInBounds_toArray, List.set_cons_zero, List.set_cons_succ])
                  refine anyH_take 18 103 undef rfl rfl (by kernel_rfl) (by kernel_rfl) (by kernel_rfl) (fun _ _ _ h => h) (.inr ⟨by rfl, rfl⟩) hS0 ?_
                  (simp only [List.setIfInBounds_toArray, List.set_cons_zero, List.set_cons_succ])
                  refine anyH_take 19 104 undef rfl rfl (by kernel_rfl) (by kernel_rfl) (by kernel_rfl) (fun _ _ _ h => h) (.inr ⟨by rfl, rfl⟩) hS0 ?_
                  (simp only [List.setIfInBounds_toArray, List.set_cons_zero, List.set_cons_succ])
                  refine anyH_take 20 105 undef rfl rfl (by kernel_rfl) (by kernel_rfl) (by kernel_rfl) (fun _ _ _ h => h) (.inr ⟨by rfl, rfl⟩) hS0 ?_
                  (simp only [List.setIfInBounds_toArray, List.set_cons_zero, List.set_cons_succ])
                  refine anyH_take 21 106 undef rfl rfl (by kernel_rfl) (by kernel_rfl) (by kernel_rfl) (fun _ _ _ h => h) (.inr ⟨by rfl, rfl⟩) hS0 ?_
                  (simp only [List.setIfInBounds_toArray, List.set_cons_zero, List.set_cons_succ])
                  refine anyH_take 22 107 undef rfl rfl (by kernel_rfl) (by kernel_rfl) (by kernel_rfl) (fun _ _ _ h => h) (.inr ⟨by rfl, rfl⟩) hS0 ?_
                  (simp only [List.setIfInBounds_toArray, List.set_cons_zero, List.set_cons_succ])
                  refine anyH_take 23 108 undef rfl rfl (by kernel_rfl) (by kernel_rfl) (by kernel_rfl) (fun _ _ _ h => h) (.inr ⟨by rfl, rfl⟩) hS0 ?_
                  (simp only [List.setIfInBounds_toArray, List.set_cons_zero, List.set_cons_succ])
                  refine anyH_take 24 109 undef rfl rfl (by kernel_rfl) (by kernel_rfl) (by kernel_rfl) (fun _ _ _ h => h) (.inr ⟨by rfl, rfl⟩) hS0 ?_
                  (simp only [List.setIfInBounds_toArray, List.set_cons_zero, List.set_cons_succ])
                  refine anyH_take 25 110 undef rfl rfl (by kernel_rfl) (by kernel_rfl) (by kernel_rfl) (fun _ _ _ h => h) (.inr ⟨by rfl, rfl⟩) hS0 ?_
                  (simp only [List.setIfInBounds_toArray, List.set_cons_zero, List.set_cons_succ])
                  refine anyH_take 26 111 (.bool false) rfl rfl (by kernel_rfl) (by kernel_rfl) (by kernel_rfl) (fun _ _ _ h => h) (.inl ⟨by rfl, fun w'' hS => by go_simp⟩) hS0 ?_
                  (simp only [List.setIfInBounds_toArray, List.set_cons_zero, List.set_cons_succ])
                  refine anyH_take 27 112 (.bool false) rfl rfl (by kernel_rfl) (by kernel_rfl) (by kernel_rfl) (fun _ _ _ h => h) (.inl ⟨by rfl, fun w'' hS => by go_simp⟩) hS0 ?_
                  (simp only [List.setIfInBounds_toArray, List.set_cons_zero, List.set_cons_succ])
                  refine wpAnyH_done (by kernel_rfl) ?_ _
                  have HF2 := Lib.hid (HF.out.trans hS0 (fun _ _ q => q))
                  clear hS0
                  go_wp2_with fail
                  refine ⟨⟨k + 1, by go_num, by have := HK.out.2.2; omega, HF2⟩, ?_⟩
                  simp [intOf]
                  have := HK.out.2.2
                  omega
              · obtain rfl : na = k := by omega
                have hkk : ¬ (na : Int) < (na : Int) := by omega
                clear hlt hk
                generalize wr = w7 at *
                have HF7 := Lib.hid (HF6.out.trans HF.out (fun _ _ q => q))
                clear HF HF6 HUE
                go_wp2_with fail
                clear hkk
                have HU0 := Lib.hid (upTo_none HST.out)
                go_loopw [13, 14] (fun s x wr => ∃ k : Nat, s = .int .i64 (upTo t k) ∧ x = .int .i64 ((k : Int) + 1) ∧ k ≤ 9 ∧ Hid (Fr (fun _ => False) w7 wr)) (fun _ x _ => 10 - (intOf x).toNat)
                case atStart => exact ⟨0, by rw [show ((0 : Nat) : Int) = 0 from rfl, HU0.out], rfl, Nat.zero_le _, Lib.hid (Fr.refl _ _)⟩
                case round =>
                  obtain ⟨k, rfl, rfl, hk, HF⟩ := hrel
                  by_cases hlt : k < 9
                  · have hle : (k : Int) + 1 ≤ 9 := by omega
                    have HLT := Lib.hid hlt
                    have hin := upTo_in HIN.out.1.2 HIN.out.2.2.2.2 (k : Int)
                    have hin2 := upTo_in HIN.out.1.2 HIN.out.2.2.2.2 ((k : Int) + 1)
                    have hst := upTo_step t (k : Int)
                    obtain ⟨S, hS⟩ : ∃ S, S = upTo t (k : Int) := ⟨_, rfl⟩
                    obtain ⟨S2, hS2⟩ : ∃ S, S = upTo t ((k : Int) + 1) := ⟨_, rfl⟩
                    obtain ⟨sv, hsv⟩ : ∃ z, z = sumT t [(k : Int) + 1] := ⟨_, rfl⟩
                    rw [← hS] at hin hst
                    rw [← hS2] at hin2 hst
                    rw [← hsv] at hst
                    rw [← hS]
                    have hadd : wrap64 (S + sv) = S2 := by rw [hst]; exact wrap64_in (by omega) (by omega)
                    obtain ⟨y, hy⟩ : ∃ y : Int, y = (k : Int) + 1 := ⟨_, rfl⟩
                    obtain ⟨W8, hW8⟩ : ∃ W, W = wr.alloc (.cells #[.int .i64 y] 41) := ⟨_, rfl⟩
                    have HW8 : Hid (Fr (fun _ => False) wr W8 ∧ Blk W8 wr.heap.size 41 #[.int .i64 y]) := Lib.hid (by rw [hW8]; exact ⟨(Fr.refl _ wr).alloc _, Blk.new wr _ _⟩)
                    have hI8 : IntsAt W8 (.slice (some ⟨wr.heap.size, 0, none⟩) 1 1) [y] := ⟨_, _, rfl, by simp [maxLen], fun _ => ⟨_, _, rfl, fun i z hz => by
                      have hi0 : i = 0 := by have := (List.getElem?_eq_some_iff.1 hz).1; simp at this; exact this
                      subst hi0
                      simp at hz
                      subst hz
                      exact cp_cell HW8.out.2 0 rfl⟩⟩
                    have HF8 := Lib.hid (HF7.out.trans (HF.out.trans HW8.out.1 (fun _ _ q => q)) (fun _ _ q => q))
                    have HV1 := pvalue_any (w := W8) (u := .slice (some ⟨wr.heap.size, 0, none⟩) 1 1) (l := [y]) (HV.out.keep0 (HB.out.1.trans HF8.out (fun _ _ q => q))) HT.out (by have := HSM.out; omega) hI8 (by simp)
                    rw [HE1.out, if_pos rfl, hy, ← hsv] at HV1
                    have HV2 := Lib.hid HV1
                    have HQ8 := Lib.hid hW8
                    have HNX : Hid (S2 = upTo t ((k + 1 : Nat) : Int)) := Lib.hid (by rw [hS2]; rfl)
                    have HYY := Lib.hid hy
                    have hle2 : y ≤ 9 := by omega
                    have hwy : wrap64 (y + 1) = y + 1 := wrap64_in (by omega) (by omega)
                    rw [← hy]
                    have HBL := Lib.hid (HB.out.2.1.keep (HF7.out.trans HF.out (fun _ _ q => q)) (fun q => q))
                    have HBM := Lib.hid (HB.out.2.1.keep HF8.out (fun q => q))
                    clear hlt hin hin2 hst hS hS2 hsv hI8 HV1 hW8 hle hy
                    go_wp2_with (first | (refine wpList_load_mid rfl 27 (.tmp 3) rfl w.heap.size 0 rfl (tkA t (.slice A1 na c1) (.slice A2 n2 c2) (.slice A3 n3 c3)).toList _ (blk_range HBL.out) Try.underlying27 rfl infoTk ?_) | (refine wpList_load_mid rfl 27 (.tmp 3) rfl w.heap.size 0 rfl (tkA t (.slice A1 na c1) (.slice A2 n2 c2) (.slice A3 n3 c3)).toList _ (blk_range HBM.out) Try.underlying27 rfl infoTk ?_))
                    rw [← HQ8.out]
                    clear HBL HBM HQ8
                    refine HV2.out.mono ?_
                    rintro e w9 ⟨rfl, f9⟩
                    have HF9 := Lib.hid ((HF.out.trans HW8.out.1 (fun _ _ q => q)).trans f9 (fun _ _ q => q))
                    clear f9
                    go_wp2_with fail
                    refine ⟨⟨k + 1, by rw [← HNX.out, hadd], by rw [hwy, HYY.out]; rfl, by have := HLT.out; omega, HF9⟩, ?_⟩
                    simp only [intOf, hwy]
                    exact ms9 HYY.out HLT.out
                  · obtain rfl : k = 9 := by omega
                    have hle : ¬ ((9 : Nat) : Int) + 1 ≤ 9 := by decide
                    have hle2 : ¬ (10 : Int) ≤ 9 := by decide
                    clear hlt hk
                    generalize wr = w8 at *
                    have HF8 := Lib.hid (HF7.out.trans HF.out (fun _ _ q => q))
                    clear HF HF7
                    obtain ⟨al, hal⟩ : ∃ z, z = upTo t ((9 : Nat) : Int) := ⟨_, rfl⟩
                    rw [← hal]
                    have HAL : Hid (al = sumT t []) := Lib.hid (by rw [hal]; exact upTo_all HST.out)
                    clear hal HU0
                    go_wp2_with fail
                    clear hle hle2
                    have HSU := Lib.hid (fun W F9 => rsum_any (w := W) (u := .slice Au nu cu) (l := l) (HV.out.keep0 (HB.out.1.trans F9 (fun _ _ q => q))) (ints_keep0 HU.out (HB.out.1.trans F9 (fun _ _ q => q))) HNU.out.2 HIN.out.1.2 HIN.out.2.2.2.2)
                    have HRT := Lib.hid (fun W F9 => rtax_any (w := W) (HV.out.keep0 (HB.out.1.trans F9 (fun _ _ q => q))) HIN.out.2.1 HIN.out.2.2.2.1)
                    have HVN := Lib.hid (fun W F9 => pvalue_any (w := W) (u := .slice none 0 0) (l := []) (HV.out.keep0 (HB.out.1.trans F9 (fun _ _ q => q))) HT.out (by have := HSM.out; omega) (RowS.nil W 0).ints (by decide))
                    simp only [HE1.out, if_true] at HVN
                    obtain ⟨sa, hsa⟩ : ∃ z, z = sumT t l := ⟨_, rfl⟩
                    obtain ⟨tx, htx⟩ : ∃ z, z = taxT t := ⟨_, rfl⟩
                    rw [← hsa] at HVL HSU
                    rw [← htx] at HTX HRT
                    rw [← HAL.out] at HVN
                    rw [HLT.out] at HLI
                    have HEA : Hid ((sa == sa) = true) := Lib.hid (by simp)
                    have HEB : Hid ((al == al) = true) := Lib.hid (by simp)
                    have HEC : Hid ((tx == tx) = true) := Lib.hid (by simp)
                    have HED : Hid (((m : Int) == (m : Int)) = true) := Lib.hid (by simp)
                    clear hsa htx
                    refine wp_region_held_drew (S := fun w' => Fr (fun _ => False) w8 w') (by kernel_rfl) ((Fr.refl _ w8).drew) (fun hS0 => ?_)
                    refine anyH_take 0 123 (.agg (tkA t (.slice A1 na c1) (.slice A2 n2 c2) (.slice A3 n3 c3))) rfl rfl (by kernel_rfl) (by kernel_rfl) (by kernel_rfl) (fun _ _ _ h => h) (yieldsIf_load_mid rfl 27 (.tmp 3) rfl w.heap.size 0 rfl (tkA t (.slice A1 na c1) (.slice A2 n2 c2) (.slice A3 n3 c3)).toList _ (fun w'' hS => blk_range (HB.out.2.1.keep (HF8.out.trans hS (fun _ _ q => q)) (fun q => q))) Try.underlying27 rfl infoTk) hS0 ?_
                    (simp only [List.setIfInBounds_toArray, List.set_cons_zero, List.set_cons_succ])
                    refine anyH_take 1 124 (.slice Au nu cu) rfl rfl (by kernel_rfl) (by kernel_rfl) (by kernel_rfl) (fun _ _ _ h => h) (.inl ⟨by rfl, fun w'' hS => by go_simp⟩) hS0 ?_
                    (simp only [List.setIfInBounds_toArray, List.set_cons_zero, List.set_cons_succ])
                    refine anyH_take 3 126 (.agg (tkA t (.slice A1 na c1) (.slice A2 n2 c2) (.slice A3 n3 c3))) rfl rfl (by kernel_rfl) (by kernel_rfl) (by kernel_rfl) (fun _ _ _ h => h) (yieldsIf_load_mid rfl 27 (.tmp 3) rfl w.heap.size 0 rfl (tkA t (.slice A1 na c1) (.slice A2 n2 c2) (.slice A3 n3 c3)).toList _ (fun w'' hS => blk_range (HB.out.2.1.keep (HF8.out.trans hS (fun _ _ q => q)) (fun q => q))) Try.underlying27 rfl infoTk) hS0 ?_
                    (simp only [List.setIfInBounds_toArray, List.set_cons_zero, List.set_cons_succ])
                    refine anyH_take 4 127 (.slice Au nu cu) rfl rfl (by kernel_rfl) (by kernel_rfl) (by kernel_rfl) (fun _ _ _ h => h) (.inl ⟨by rfl, fun w'' hS => by go_simp⟩) hS0 ?_
                    (simp only [List.setIfInBounds_toArray, List.set_cons_zero, List.set_cons_succ])
                    refine anyH_one 2 125 (.int .i64 sa) (by kernel_rfl) (tame_call 125 rfl rfl (by rfl) (fun w'' hS => by go_simp) (fun w'' hS => ((HVL.out w'' (HF8.out.trans hS (fun _ _ q => q))).mono fun e w3 he => ⟨he.1, hS.trans he.2 (fun _ _ q => q)⟩))) hS0 (fun wq0 hS0 => ?_)
                    (simp only [List.setIfInBounds_toArray, List.set_cons_zero, List.set_cons_succ])
                    refine anyH_one 5 128 (.int .i64 sa) (by kernel_rfl) (tame_call 128 rfl rfl (by rfl) (fun w'' hS => by go_simp) (fun w'' hS => ((HSU.out w'' (HF8.out.trans hS (fun _ _ q => q))).mono fun e w3 he => ⟨he.1, hS.trans he.2 (fun _ _ q => q)⟩))) hS0 (fun wq1 hS0 => ?_)
                    (simp only [List.setIfInBounds_toArray, List.set_cons_zero, List.set_cons_succ])
                    refine anyH_take 6 129 (.bool true) rfl rfl (by kernel_rfl) (by kernel_rfl) (by kernel_rfl) (fun _ _ _ h => h) (.inl ⟨by rfl, fun w'' hS => by have q0 := HEA.out; go_simp⟩) hS0 ?_
                    (simp only [List.setIfInBounds_toArray, List.set_cons_zero, List.set_cons_succ])
                    refine anyH_take 7 130 (.bool true) rfl rfl (by kernel_rfl) (by kernel_rfl) (by kernel_rfl) (fun _ _ _ h => h) (.inl ⟨by rfl, fun w'' hS => by go_simp⟩) hS0 ?_
                    (simp only [List.setIfInBounds_toArray, List.set_cons_zero, List.set_cons_succ])
                    refine anyH_take 8 131 (.int .i64 al) rfl rfl (by kernel_rfl) (by kernel_rfl) (by kernel_rfl) (fun _ _ _ h => h) (.inl ⟨by rfl, fun w'' hS => by go_simp⟩) hS0 ?_
                    (simp only [List.setIfInBounds_toArray, List.set_cons_zero, List.set_cons_succ])
                    refine anyH_take 9 132 (.agg (tkA t (.slice A1 na c1) (.slice A2 n2 c2) (.slice A3 n3 c3))) rfl rfl (by kernel_rfl) (by kernel_rfl) (by kernel_rfl) (fun _ _ _ h => h) (yieldsIf_load_mid rfl 27 (.tmp 3) rfl w.heap.size 0 rfl (tkA t (.slice A1 na c1) (.slice A2 n2 c2) (.slice A3 n3 c3)).toList _ (fun w'' hS => blk_range (HB.out.2.1.keep (HF8.out.trans hS (fun _ _ q => q)) (fun q => q))) Try.underlying27 rfl infoTk) hS0 ?_
                    (simp only [List.setIfInBounds_toArray, List.set_cons_zero, List.set_cons_succ])
                    refine anyH_one 10 133 (.int .i64 al) (by kernel_rfl) (tame_call 133 rfl rfl (by rfl) (fun w'' hS => by go_simp) (fun w'' hS => ((HVN.out w'' (HF8.out.trans hS (fun _ _ q => q))).mono fun e w3 he => ⟨he.1, hS.trans he.2 (fun _ _ q => q)⟩))) hS0 (fun wq2 hS0 => ?_)
                    (simp only [List.setIfInBounds_toArray, List.set_cons_zero, List.set_cons_succ])
                    refine anyH_take 11 134 (.bool true) rfl rfl (by kernel_rfl) (by kernel_rfl) (by kernel_rfl) (fun _ _ _ h => h) (.inl ⟨by rfl, fun w'' hS => by have q0 := HEB.out; go_simp⟩) hS0 ?_
                    (simp only [List.setIfInBounds_toArray, List.set_cons_zero, List.set_cons_succ])
                    refine anyH_take 12 135 (.bool true) rfl rfl (by kernel_rfl) (by kernel_rfl) (by kernel_rfl) (fun _ _ _ h => h) (.inl ⟨by rfl, fun w'' hS => by go_simp⟩) hS0 ?_
                    (simp only [List.setIfInBounds_toArray, List.set_cons_zero, List.set_cons_succ])
                    refine anyH_take 13 136 (.bool true) rfl rfl (by kernel_rfl) (by kernel_rfl) (by kernel_rfl) (fun _ _ _ h => h) (.inl ⟨by rfl, fun w'' hS => by go_simp⟩) hS0 ?_
                    (simp only [List.setIfInBounds_toArray, List.set_cons_zero, List.set_cons_succ])
                    refine anyH_take 14 137 (.agg (tkA t (.slice A1 na c1) (.slice A2 n2 c2) (.slice A3 n3 c3))) rfl rfl (by kernel_rfl) (by kernel_rfl) (by kernel_rfl) (fun _ _ _ h => h) (yieldsIf_load_mid rfl 27 (.tmp 3) rfl w.heap.size 0 rfl (tkA t (.slice A1 na c1) (.slice A2 n2 c2) (.slice A3 n3 c3)).toList _ (fun w'' hS => blk_range (HB.out.2.1.keep (HF8.out.trans hS (fun _ _ q => q)) (fun q => q))) Try.underlying27 rfl infoTk) hS0 ?_
                    (simp only [List.setIfInBounds_toArray, List.set_cons_zero, List.set_cons_succ])
                    refine anyH_take 16 139 (.agg (tkA t (.slice A1 na c1) (.slice A2 n2 c2) (.slice A3 n3 c3))) rfl rfl (by kernel_rfl) (by kernel_rfl) (by kernel_rfl) (fun _ _ _ h => h) (yieldsIf_load_mid rfl 27 (.tmp 3) rfl w.heap.size 0 rfl (tkA t (.slice A1 na c1) (.slice A2 n2 c2) (.slice A3 n3 c3)).toList _ (fun w'' hS => blk_range (HB.out.2.1.keep (HF8.out.trans hS (fun _ _ q => q)) (fun q => q))) Try.underlying27 rfl infoTk) hS0 ?_
                    (simp only [List.setIfInBounds_toArray, List.set_cons_zero, List.set_cons_succ])
                    refine anyH_one 15 138 (.int .i64 tx) (by kernel_rfl) (tame_call 138 rfl rfl (by rfl) (fun w'' hS => by go_simp) (fun w'' hS => ((HTX.out w'' (HF8.out.trans hS (fun _ _ q => q))).mono fun e w3 he => ⟨he.1, hS.trans he.2 (fun _ _ q => q)⟩))) hS0 (fun wq3 hS0 => ?_)
                    (simp only [List.setIfInBounds_toArray, List.set_cons_zero, List.set_cons_succ])
                    refine anyH_one 17 140 (.int .i64 tx) (by kernel_rfl) (tame_call 140 rfl rfl (by rfl) (fun w'' hS => by go_simp) (fun w'' hS => ((HRT.out w'' (HF8.out.trans hS (fun _ _ q => q))).mono fun e w3 he => ⟨he.1, hS.trans he.2 (fun _ _ q => q)⟩))) hS0 (fun wq4 hS0 => ?_)
                    (simp only [List.setIfInBounds_toArray, List.set_cons_zero, List.set_cons_succ])
                    refine anyH_take 18 141 (.bool true) rfl rfl (by kernel_rfl) (by kernel_rfl) (by kernel_rfl) (fun _ _ _ h => h) (.inl ⟨by rfl, fun w'' hS => by have q0 := HEC.out; go_simp⟩) hS0 ?_
                    (simp only [List.setIfInBounds_toArray, List.set_cons_zero, List.set_cons_succ])
                    refine anyH_take 19 142 (.bool true) rfl rfl (by kernel_rfl) (by kernel_rfl) (by kernel_rfl) (fun _ _ _ h => h) (.inl ⟨by rfl, fun w'' hS => by go_simp⟩) hS0 ?_
                    (simp only [List.setIfInBounds_toArray, List.set_cons_zero, List.set_cons_succ])
                    refine anyH_take 20 143 (.bool true) rfl rfl (by kernel_rfl) (by kernel_rfl) (by kernel_rfl) (fun _ _ _ h => h) (.inl ⟨by rfl, fun w'' hS => by go_simp⟩) hS0 ?_
                    (simp only [List.setIfInBounds_toArray, List.set_cons_zero, List.set_cons_succ])
                    refine anyH_take 21 144 (.agg (tkA t (.slice A1 na c1) (.slice A2 n2 c2) (.slice A3 n3 c3))) rfl rfl (by kernel_rfl) (by kernel_rfl) (by kernel_rfl) (fun _ _ _ h => h) (yieldsIf_load_mid rfl 27 (.tmp 3) rfl w.heap.size 0 rfl (tkA t (.slice A1 na c1) (.slice A2 n2 c2) (.slice A3 n3 c3)).toList _ (fun w'' hS => blk_range (HB.out.2.1.keep (HF8.out.trans hS (fun _ _ q => q)) (fun q => q))) Try.underlying27 rfl infoTk) hS0 ?_
                    (simp only [List.setIfInBounds_toArray, List.set_cons_zero, List.set_cons_succ])
                    refine anyH_take 23 146 (.int .i64 (m : Nat)) rfl rfl (by kernel_rfl) (by kernel_rfl) (by kernel_rfl) (fun _ _ _ h => h) (.inl ⟨by rfl, fun w'' hS => by go_simp⟩) hS0 ?_
                    (simp only [List.setIfInBounds_toArray, List.set_cons_zero, List.set_cons_succ])
                    refine anyH_one 22 145 (.int .i64 (m : Nat)) (by kernel_rfl) (tame_call 145 rfl rfl (by rfl) (fun w'' hS => by go_simp) (fun w'' hS => ((HLI.out w'' (HF8.out.trans hS (fun _ _ q => q))).mono fun e w3 he => ⟨he.1, hS.trans he.2 (fun _ _ q => q)⟩))) hS0 (fun wq5 hS0 => ?_)
                    (simp only [List.setIfInBounds_toArray, List.set_cons_zero, List.set_cons_succ])
                    refine anyH_take 24 147 (.bool true) rfl rfl (by kernel_rfl) (by kernel_rfl) (by kernel_rfl) (fun _ _ _ h => h) (.inl ⟨by rfl, fun w'' hS => by have q0 := HED.out; go_simp⟩) hS0 ?_
                    (simp only [List.setIfInBounds_toArray, List.set_cons_zero, List.set_cons_succ])
                    refine anyH_take 25 148 (.bool true) rfl rfl (by kernel_rfl) (by kernel_rfl) (by kernel_rfl) (fun _ _ _ h => h) (.inl ⟨by rfl, fun w'' hS => by go_simp⟩) hS0 ?_
                    (simp only [List.setIfInBounds_toArray, List.set_cons_zero, List.set_cons_succ])
                    refine anyH_take 26 149 (.bool true) rfl rfl (by kernel_rfl) (by kernel_rfl) (by kernel_rfl) (fun _ _ _ h => h) (.inl ⟨by rfl, fun w'' hS => by go_simp⟩) hS0 ?_
                    (simp only [List.setIfInBounds_toArray, List.set_cons_zero, List.set_cons_succ])
                    refine anyH_one 27 150 (.bool true) (by kernel_rfl) (tame_call 150 rfl rfl (by rfl) (fun w'' hS => by go_simp) (fun w'' hS => ((HKN.out w'').mono fun e w3 he => ⟨he.1, hS.trans he.2 (fun _ _ q => q)⟩))) hS0 (fun wq6 hS0 => ?_)
                    (simp only [List.setIfInBounds_toArray, List.set_cons_zero, List.set_cons_succ])
                    refine anyH_take 28 151 (.bool true) rfl rfl (by kernel_rfl) (by kernel_rfl) (by kernel_rfl) (fun _ _ _ h => h) (.inl ⟨by rfl, fun w'' hS => by go_simp⟩) hS0 ?_
                    (simp only [List.setIfInBounds_toArray, List.set_cons_zero, List.set_cons_succ])
                    refine anyH_take 29 6 (.bool true) rfl rfl (by kernel_rfl) (by kernel_rfl) (by kernel_rfl) (fun _ _ _ h => h) (.inl ⟨by rfl, fun w'' hS => by go_simp⟩) hS0 ?_
                    (simp only [List.setIfInBounds_toArray, List.set_cons_zero, List.set_cons_succ])
                    refine wpAnyH_done (by kernel_rfl) ?_ _
                    have HF9 := Lib.hid (HB.out.1.trans (HF8.out.trans hS0 (fun _ _ q => q)) (fun _ _ q => q))
                    clear hS0
                    go_wp2_with fail
                    go_ret
                    exact ⟨rfl, HF9.out⟩
end Go.Proofs.Ytmopkfjnjbimnaa
