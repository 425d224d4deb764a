/- What a change makes may be (pure). -/
import Derived.Test.YtmopkfjnjbimnaaKqh
namespace Go.Proofs.Ytmopkfjnjbimnaa
open Go.RowKit

theorem evsOn_lst (till : Int) : ∀ (l : List EvT) (now was : List Int) (d : Int) (r : List Int × List Int × Int), evsOn till (now, was, d) l = some r → d ≤ r.2.2 ∧ (∀ x ∈ l, x.dy ≤ r.2.2) ∧ r.2.2 = (l.getLast?.map EvT.dy).getD d := by
  intro l
  induction l with
  | nil =>
    intro now was d r h
    simp only [evsOn, Option.some.injEq] at h
    subst h
    exact ⟨Int.le_refl _, (fun x hx => by cases hx), rfl⟩
  | cons x l ih =>
    intro now was d r h
    simp only [evsOn, evOn_G] at h
    by_cases g : tellG now d x = true
    · rw [if_pos g, Option.bind_some] at h
      have hd : d ≤ x.dy := by
        unfold tellG at g
        simp only [Bool.and_eq_true, decide_eq_true_eq] at g
        exact g.1.1
      obtain ⟨h1, h2, h3⟩ := ih _ _ _ _ h
      have h1' : x.dy ≤ r.2.2 := h1
      refine ⟨by omega, fun y hy => ?_, ?_⟩
      · rcases List.mem_cons.1 hy with rfl | hy
        · exact h1'
        · exact h2 y hy
      · rw [h3]
        cases l with
        | nil => rfl
        | cons y l => rw [List.getLast?_cons_cons]; cases hg : (y :: l).getLast? with
          | none => simp at hg
          | some z => rfl
    · rw [if_neg g] at h
      cases h
theorem modify_set {α : Type} (f : α → α) {l : List α} {m : Nat} {x : α} (h : l[m]? = some x) : l.modify m f = l.set m (f x) := (set_modify f h).symm
theorem all_set {α : Type} {p : α → Bool} {l : List α} {m : Nat} {y : α} (h : l.all p = true) (hy : p y = true) : (l.set m y).all p = true := by
  rw [List.all_eq_true] at h ⊢
  intro z hz
  rcases List.mem_or_eq_of_mem_set hz with h1 | h1
  · exact h z h1
  · rw [h1]; exact hy
/-- What Change makes may be. -/
theorem chg_may {t : TkD} {c d s : Int} {k : Nat} (h : chgE t c d s k = 0) : mayT (chgT t c d s k) = true := by
  have h0 := h
  unfold chgE at h
  split at h
  · rename_i h1
    split at h
    · rename_i h2
      split at h
      · rename_i h3
        split at h
        · cases h
        · rename_i h4
          obtain ⟨hm, hc1, hc2, hw⟩ := h1
          unfold chgT
          rw [if_pos h0]
          obtain ⟨m, hcm⟩ : ∃ m : Nat, c = (m : Int) + 1 := ⟨(c - 1).toNat, by omega⟩
          have hto : (c - 1).toNat = m := by omega
          rw [hto] at h2 ⊢
          have hml : m < t.cps.length := by omega
          obtain ⟨x1, hx⟩ : ∃ x, t.cps[m]? = some x := ⟨_, List.getElem?_eq_getElem hml⟩
          have hst : (t.cps.map CpD.st).getD m 0 = x1.st := by rw [List.getD_eq_getElem?_getD, List.getElem?_map, hx]; rfl
          rw [hst] at h2 ⊢
          rw [modify_set _ hx]
          obtain ⟨now, was, dd, hE, hth⟩ := may_then hm 0
          have hlast : dd = lastT t := by
            have := evsOn_lst 0 _ _ _ _ _ hE
            unfold lastT
            exact this.2.2
          have hnow : now = t.cps.map CpD.st := by
            rw [then_st0, hE] at hth
            simp only at hth
            by_cases hn : now = t.cps.map CpD.st
            · exact hn
            · rw [if_neg hn] at hth
              cases hth
          have hm0 := hm
          rw [mayT_eq] at hm
          unfold coupsB tellsB at hm
          simp only [Bool.and_eq_true, decide_eq_true_eq] at hm
          obtain ⟨⟨⟨⟨k1, k2⟩, k3⟩, k4⟩, k5⟩ := hm
          have hcp := List.all_eq_true.1 k3.2 x1 (List.mem_of_getElem? hx)
          rw [cpB_w] at hcp
          simp only [Bool.and_eq_true] at hcp
          have hms : mayS s = true := by
            unfold leadsS at h2
            simp only [Bool.and_eq_true] at h2
            exact h2.1.2
          have hnew : cpB t.num (chgCp x1 s k) = true := by
            rw [cpB_w]
            simp only [Bool.and_eq_true]
            refine ⟨⟨⟨⟨hcp.1.1.1.1, hcp.1.1.1.2⟩, hcp.1.1.2⟩, hms⟩, ?_⟩
            by_cases h9 : s = 9
            · rw [← becD_chg x1 t.num s k hw, wB_bec x1 t.num s k (.inl h9)]
              exact hw
            · by_cases h5 : s = 5
              · rw [← becD_chg x1 t.num s k hw, wB_bec x1 t.num s k (.inr h5)]
                exact hw
              · unfold wB chgCp
                simp [h9, h5]
          have hg : tellG now dd ⟨d, c, x1.st, s⟩ = true := by
            unfold tellG hasB
            have hnl : now.length = t.cps.length := by rw [hnow, List.length_map]
            have hg2 : now[(c - 1).toNat]? = some x1.st := by rw [hto, hnow, List.getElem?_map, hx]; rfl
            simp only [Bool.and_eq_true, decide_eq_true_eq, beq_iff_eq]
            exact ⟨⟨by rw [hlast]; exact h3.1, h3.2⟩, ⟨⟨hc1, by rw [hnl]; exact hc2⟩, hg2⟩, h2⟩
          have hfin : evsOn 0 (st0 t t.cps.length) (t.his ++ [⟨d, c, x1.st, s⟩]) = some (now.set m s, if d ≤ 0 then was.set m s else was, d) := by
            rw [evsOn_snoc, hE, Option.bind_some, evOn_G, if_pos hg, hto]
          rw [mayT_eq]
          unfold coupsB tellsB
          simp only [Bool.and_eq_true, decide_eq_true_eq]
          refine ⟨⟨⟨⟨k1, k2⟩, ⟨⟨by rw [List.length_set]; exact k3.1.1, by rw [List.length_set]; exact k3.1.2⟩, all_set k3.2 hnew⟩⟩, k4⟩, ?_, ?_⟩
          · rw [List.length_append]
            have := k5.1
            simp
            omega
          · rw [then_st0]
            have e1 : st0 { t with cps := t.cps.set m (chgCp x1 s k), his := t.his ++ [⟨d, c, x1.st, s⟩] } ({ t with cps := t.cps.set m (chgCp x1 s k), his := t.his ++ [⟨d, c, x1.st, s⟩] } : TkD).cps.length = st0 t t.cps.length := by
              show st0 _ ((t.cps.set m (chgCp x1 s k)).length) = _
              rw [List.length_set]
              rfl
            rw [e1, hfin]
            simp only
            rw [if_pos (by rw [hnow, List.map_set]; rfl)]
            rfl
      · cases h
    · cases h
  · cases h
theorem chg_ok {t : TkD} {c d s : Int} {k : Nat} (hok : TkOk t) (hc : i64B c) (hd : i64B d) (hs : i64B s) (hk : u64B k) : TkOk (chgT t c d s k) := by
  unfold chgT
  split
  · rename_i h
    refine ⟨hok.num, hok.loc, hok.iss, fun x hx => ?_, hok.txs, hok.prv, hok.org, hok.fst, hok.vou, hok.pos, fun x hx => ?_⟩
    · have hx' : x ∈ t.cps.modify (c - 1).toNat (fun x => chgCp x s k) := hx
      cases hm : t.cps[(c - 1).toNat]? with
      | none =>
        rw [List.modify_eq_self (List.getElem?_eq_none_iff.1 hm)] at hx'
        exact hok.cps x hx'
      | some y =>
        rw [modify_set _ hm] at hx'
        rcases List.mem_or_eq_of_mem_set hx' with h1 | h1
        · exact hok.cps x h1
        · subst h1
          have hy := hok.cps y (List.mem_of_getElem? hm)
          unfold u64B at hk
          have hw : withB t.num s k = true := by
            unfold chgE at h
            split at h
            · rename_i h1; exact h1.2.2.2
            · cases h
          refine ⟨hy.fl, hy.dy, hy.va, hs, ?_, ?_⟩
          · unfold chgCp i64B
            simp only
            split
            · rename_i h9
              unfold withB at hw
              rw [if_pos h9, decide_eq_true_eq] at hw
              omega
            · omega
          · unfold chgCp u64B
            simp only
            split <;> omega
    · have hx' : x ∈ t.his ++ [⟨d, c, (t.cps.map CpD.st).getD (c - 1).toNat 0, s⟩] := hx
      rcases List.mem_append.1 hx' with h1 | h1
      · exact hok.his x h1
      · rw [List.mem_singleton] at h1
        subst h1
        refine ⟨hd, hc, ?_, hs⟩
        show i64B ((t.cps.map CpD.st).getD (c - 1).toNat 0)
        rw [List.getD_eq_getElem?_getD, List.getElem?_map]
        cases hm : t.cps[(c - 1).toNat]? with
        | none => simp [i64B]
        | some y => exact (hok.cps y (List.mem_of_getElem? hm)).st
  · exact ⟨by unfold u64B noTk; decide, by decide, by unfold i64B noTk; decide, (fun x hx => by cases hx), (fun x hx => by cases hx), by unfold u64B noTk; decide, by unfold u64B noTk; decide, by unfold u64B noTk; decide, by unfold i64B noTk; decide, by unfold i64B noTk; decide, (fun x hx => by cases hx)⟩
end Go.Proofs.Ytmopkfjnjbimnaa
