/- A ticket's coupons and its history: who came to a last status stays, and comes to one at most once (pure). -/
import Derived.Test.YtmopkfjnjbimnaaKcm
namespace Go.Proofs.Ytmopkfjnjbimnaa
open Go.RowKit

theorem leads_not_last {a b : Int} (h : leadsS a b = true) : lastS a = false := by
  unfold leadsS leadsN at h
  simp only [Bool.and_eq_true] at h
  unfold lastS
  cases h1 : (nextL a.toNat).isEmpty with
  | false => simp
  | true =>
    rw [List.isEmpty_iff] at h1
    rw [h1] at h
    exact absurd h.2 (by simp)
theorem evsOn_cut (till : Int) : ∀ (l m : List EvT) (s : List Int × List Int × Int), evsOn till s (l ++ m) = (evsOn till s l).bind fun r => evsOn till r m := by
  intro l
  induction l with
  | nil => intro m s; rfl
  | cons x l ih =>
    intro m s
    simp only [List.cons_append, evsOn]
    cases evOn till s x with
    | none => rfl
    | some r => simp only [Option.bind_some]; exact ih m r
theorem evsOn_pre {till : Int} {l : List EvT} {s r : List Int × List Int × Int} (h : evsOn till s l = some r) (p : Nat) : ∃ r', evsOn till s (l.take p) = some r' := by
  have h1 := evsOn_cut till (l.take p) (l.drop p) s
  rw [List.take_append_drop, h] at h1
  cases h2 : evsOn till s (l.take p) with
  | none => rw [h2] at h1; cases h1
  | some r' => exact ⟨r', rfl⟩
/-- What the coupons are behind the first p events. -/
def nowP (t : TkD) (p : Nat) : List Int := ((evsOn 0 (st0 t t.cps.length) (t.his.take p)).map fun r => r.1).getD []
def stP (t : TkD) (k p : Nat) : Int := (nowP t p).getD k 0
theorem nowP_len {t : TkD} (hm : mayT t = true) (p : Nat) : (nowP t p).length = t.cps.length := by
  obtain ⟨now, was, d, hE, -⟩ := may_then hm 0
  obtain ⟨r, hr⟩ := evsOn_pre hE p
  have h1 := (evsOn_len 0 _ _ _ hr).1
  unfold nowP
  rw [show evsOn 0 (st0 t t.cps.length) (t.his.take p) = some r from hr]
  show r.1.length = _
  rw [h1]
  exact List.length_replicate
theorem nowP_step {t : TkD} (hm : mayT t = true) {p : Nat} {x : EvT} (hx : t.his[p]? = some x) : ∃ d, tellG (nowP t p) d x = true ∧ nowP t (p + 1) = (nowP t p).set (x.cp - 1).toNat x.tw := by
  obtain ⟨now, was, d, hE, -⟩ := may_then hm 0
  obtain ⟨⟨n0, w0, d0⟩, hr⟩ := evsOn_pre hE p
  obtain ⟨r1, hr1⟩ := evsOn_pre hE (p + 1)
  have hp : p < t.his.length := (List.getElem?_eq_some_iff.1 hx).1
  have htk : t.his.take (p + 1) = t.his.take p ++ [x] := by
    rw [List.take_add_one, hx]
    rfl
  have e0 : nowP t p = n0 := by
    unfold nowP
    rw [show evsOn 0 (st0 t t.cps.length) (t.his.take p) = some (n0, w0, d0) from hr]
    rfl
  have e1 : nowP t (p + 1) = r1.1 := by
    unfold nowP
    rw [show evsOn 0 (st0 t t.cps.length) (t.his.take (p + 1)) = some r1 from hr1]
    rfl
  rw [htk, evsOn_snoc, hr, Option.bind_some, evOn_G] at hr1
  by_cases g : tellG n0 d0 x = true
  · rw [if_pos g, Option.some.injEq] at hr1
    exact ⟨d0, by rw [e0]; exact g, by rw [e1, ← hr1, e0]⟩
  · rw [if_neg g] at hr1
    cases hr1
theorem stP_start {t : TkD} {k : Nat} (hk : k < t.cps.length) : lastS (stP t k 0) = false := by
  have h : stP t k 0 = 1 := by
    unfold stP nowP
    show (List.replicate t.cps.length (1 : Int)).getD k 0 = 1
    rw [List.getD_eq_getElem?_getD, List.getElem?_replicate]
    simp [hk]
  rw [h]
  decide
theorem stP_other {t : TkD} (hm : mayT t = true) {p : Nat} {x : EvT} (hx : t.his[p]? = some x) {k : Nat} (hne : x.cp ≠ (k : Int) + 1) : stP t k (p + 1) = stP t k p := by
  obtain ⟨d, hg, hs⟩ := nowP_step hm hx
  unfold tellG hasB at hg
  simp only [Bool.and_eq_true, decide_eq_true_eq] at hg
  unfold stP
  rw [hs, List.getD_eq_getElem?_getD, List.getD_eq_getElem?_getD, List.getElem?_set_ne (by omega)]
theorem stP_same {t : TkD} (hm : mayT t = true) {p : Nat} {x : EvT} (hx : t.his[p]? = some x) {k : Nat} (he : x.cp = (k : Int) + 1) : lastS (stP t k p) = false ∧ stP t k (p + 1) = x.tw := by
  obtain ⟨d, hg, hs⟩ := nowP_step hm hx
  unfold tellG hasB at hg
  simp only [Bool.and_eq_true, decide_eq_true_eq, beq_iff_eq] at hg
  have hk : (x.cp - 1).toNat = k := by omega
  rw [hk] at hs hg
  have hl : k < (nowP t p).length := by omega
  unfold stP
  refine ⟨?_, ?_⟩
  · rw [List.getD_eq_getElem?_getD, hg.2.1.2]
    exact leads_not_last hg.2.2
  · rw [hs, List.getD_eq_getElem?_getD, List.getElem?_set_self hl]
    rfl
theorem stP_end {t : TkD} (hm : mayT t = true) {k : Nat} {c : CpD} (hc : t.cps[k]? = some c) : stP t k t.his.length = c.st := by
  obtain ⟨now, was, d, hE, hth⟩ := may_then hm 0
  have hnow : now = t.cps.map CpD.st := by
    rw [then_st0, hE] at hth
    simp only at hth
    by_cases hn : now = t.cps.map CpD.st
    · exact hn
    · rw [if_neg hn] at hth
      cases hth
  unfold stP nowP
  rw [List.take_length, show evsOn 0 (st0 t t.cps.length) t.his = some (now, was, d) from hE]
  show now.getD k 0 = c.st
  rw [hnow, List.getD_eq_getElem?_getD, List.getElem?_map, hc]
  rfl
/-- A change leaves as many coupons, and each that stood at a last status as it was. -/
theorem chg_keeps {t : TkD} {c d s : Int} {k : Nat} (h : chgE t c d s k = 0) : (chgT t c d s k).cps.length = t.cps.length ∧ ∀ (i : Nat) (x : CpD), t.cps[i]? = some x → lastS x.st = true → (chgT t c d s k).cps[i]? = some x := by
  have h0 := h
  unfold chgE at h
  split at h
  · rename_i h1
    split at h
    · rename_i h2
      unfold chgT
      rw [if_pos h0]
      refine ⟨by simp, fun i x hx hl => ?_⟩
      show (t.cps.modify (c - 1).toNat (fun x => chgCp x s k))[i]? = some x
      rw [List.getElem?_modify]
      by_cases hi : (c - 1).toNat = i
      · rw [hi, List.getD_eq_getElem?_getD, List.getElem?_map, hx] at h2
        have h3 := leads_not_last h2
        have h4 : lastS x.st = false := h3
        rw [h4] at hl
        cases hl
      · have hi' : ¬ c.toNat - 1 = i := by omega
        simp [hx, hi']
    · cases h
  · cases h
end Go.Proofs.Ytmopkfjnjbimnaa
