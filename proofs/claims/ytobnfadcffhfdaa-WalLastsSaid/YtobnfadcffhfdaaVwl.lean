/- wal: what each call makes of a disk at rest, and what a loss of power leaves of it (pure): the theory of WalLasts. -/
import Derived.Test.YtobnfadcffhfdaaVwi
namespace Go.Proofs.Ytobnfadcffhfdaa
open Go.RowKit Go.Maps

theorem crash_rest {d : DS} (h : ∀ j, d.vs j = []) (picks : List Int) : (d.crash picks).rd = d.rd ∧ ∀ j, (d.crash picks).vs j = [] := by
  have h0 : d.openL = [] := by
    refine List.eq_nil_iff_forall_not_mem.2 fun i hi => ?_
    exact (DS.openL_mem.1 hi).2 (h i)
  have h1 : d.pairs picks = [] := by unfold DS.pairs; rw [h0]; rfl
  unfold DS.crash
  rw [h1]
  exact ⟨rfl, h⟩
theorem RI.same {d d' : DS} {z c s : Nat} {q : List (Nat × List Chg)} {e : Nat} (h : RI d z c s q e) (hr : d'.rd = d.rd) (hv' : ∀ j, d'.vs j = []) : RI d' z c s q e := by
  have hb : bodyOf d' z = bodyOf d z := by unfold bodyOf; rw [hr]
  refine h.head_set hv' (by rw [hr]) (by rw [hr]; exact h.all) hb ?_ (Nat.le_refl _)
  have : d'.head = d.head := by unfold DS.head; rw [hr]
  unfold HeadIs
  rw [this]
  exact h.hd
theorem crash_gone_all {d : DS} (hl : ∀ j, d.rd.length ≤ j → d.vs j = []) (picks : List Int) : ∀ j, (d.crash picks).vs j = [] := fun j => by
  by_cases hj : j < d.rd.length
  · exact crash_gone d picks hj
  · show (d.falls (d.pairs picks)).vs j = []
    rw [falls_vs _ _ _ fun p hp => ?_]
    · exact hl j (by omega)
    · simp only [DS.pairs, List.mem_map] at hp
      obtain ⟨x, hx, rfl⟩ := hp
      have h1 : x.1 ∈ d.openL := by
        have := List.fst_mem_of_mem_zipIdx hx
        exact this
      have h2 := (DS.openL_mem.1 h1).1
      intro e
      have h3 : x.1 = j := e
      omega
theorem settle_out {d : DS} {i : Nat} {ss : List (List UInt8)} (hvs : ∀ j, d.vs j = []) (hl : i + ss.length ≤ d.rd.length) (hdead : d.settles i ss = false) : ∀ j, (d.settle i ss).rd.length ≤ j → (d.settle i ss).vs j = [] := fun j hj => by
  unfold DS.settles at hdead
  rw [settle_len] at hj
  have e : (d.settle i ss).vs = (d.lay i ss).vs := by
    unfold DS.settle DS.flushed
    rw [hdead]
    rfl
  rw [e, lay_vs d i ss (by omega)]
  exact hvs j
theorem halves_eq {u v : List UInt8} (h1 : u.take 64 = v.take 64) (h2 : u.drop 64 = v.drop 64) : u = v := by
  rw [← List.take_append_drop 64 u, h1, h2, List.take_append_drop]
theorem all_getD {l : List (List UInt8)} (h : ∀ j, j < l.length → (l.getD j []).length = 128) : ∀ x ∈ l, x.length = 128 := fun x hx => by
  obtain ⟨j, hj⟩ := List.getElem?_of_mem hx
  have hl := (List.getElem?_eq_some_iff.1 hj).1
  have := h j hl
  rw [List.getD_eq_getElem?_getD, hj] at this
  exact this
/-- The head laid and flushed. -/
theorem head_alive {d : DS} {x : List UInt8} (hall : ∀ x ∈ d.rd, x.length = 128) (hx : x.length = 128) (h0 : 0 < d.rd.length) (ok : d.settles 0 [x] = true) : (∀ j, (d.settle 0 [x]).vs j = []) ∧ (d.settle 0 [x]).rd.length = d.rd.length ∧ (∀ y ∈ (d.settle 0 [x]).rd, y.length = 128) ∧ (d.settle 0 [x]).head = x ∧ ∀ j, 1 ≤ j → j < d.rd.length → (d.settle 0 [x]).rd.getD j [] = d.rd.getD j [] := by
  obtain ⟨h1, h2⟩ := settle_alive ok
  have hr : (d.settle 0 [x]).rd = d.rd.set 0 x := h1
  refine ⟨h2, by rw [hr, List.length_set], fun y hy => ?_, ?_, fun j hj _ => ?_⟩
  · rw [hr] at hy
    rcases List.mem_or_eq_of_mem_set hy with q | q
    · exact hall y q
    · rw [q]; exact hx
  · unfold DS.head
    rw [hr]
    exact getD_set_self h0
  · rw [hr]
    exact getD_set_ne (by omega)
/-- The head being laid when the power goes. -/
theorem head_torn {d : DS} {x : List UInt8} (hvs : ∀ j, d.vs j = []) (hall : ∀ x ∈ d.rd, x.length = 128) (hx : x.length = 128) (h0 : 0 < d.rd.length) (bad : d.settles 0 [x] = false) (picks : List Int) : (∀ j, ((d.settle 0 [x]).crash picks).vs j = []) ∧ ((d.settle 0 [x]).crash picks).rd.length = d.rd.length ∧ (∀ y ∈ ((d.settle 0 [x]).crash picks).rd, y.length = 128) ∧ (((d.settle 0 [x]).crash picks).head.take 64 = d.head.take 64 ∨ ((d.settle 0 [x]).crash picks).head.take 64 = x.take 64) ∧ ∀ j, 1 ≤ j → j < d.rd.length → ((d.settle 0 [x]).crash picks).rd.getD j [] = d.rd.getD j [] := by
  obtain ⟨h1, h2⟩ := torn_settle (i := 0) (ss := [x]) hvs hall (fun y hy => by rw [List.mem_singleton.1 hy]; exact hx) (by simp; omega) bad picks
  have hlen : ∀ j, j < d.rd.length → (d.rd.getD j []).length = 128 := fun j hj => hall _ (List.mem_of_getElem? (i := j) (by simp [hj]))
  have hsame : ∀ j, 1 ≤ j → j < d.rd.length → ((d.settle 0 [x]).crash picks).rd.getD j [] = d.rd.getD j [] := fun j hj hj2 => by
    obtain ⟨k1, k2⟩ := h2 j hj2
    refine halves_eq ?_ ?_
    · rcases k1 with q | ⟨y, _, q, _⟩
      · exact q
      · rw [List.getElem?_eq_none (by simp; omega)] at q
        cases q
    · rcases k2 with q | ⟨y, _, q, _⟩
      · exact q
      · rw [List.getElem?_eq_none (by simp; omega)] at q
        cases q
  refine ⟨crash_gone_all (settle_out hvs (by simp; omega) bad) picks, h1, all_getD fun j hj => ?_, ?_, hsame⟩
  · rw [h1] at hj
    obtain ⟨k1, k2⟩ := h2 j hj
    have hl := hlen j hj
    have e1 : ((((d.settle 0 [x]).crash picks).rd.getD j []).take 64).length = 64 := by
      rcases k1 with q | ⟨y, _, q0, q⟩
      · rw [q, List.length_take, hl]; rfl
      · have hm := List.mem_of_getElem? q0
        rw [List.mem_singleton.1 hm] at q
        rw [q, List.length_take, hx]; rfl
    have e2 : ((((d.settle 0 [x]).crash picks).rd.getD j []).drop 64).length = 64 := by
      rcases k2 with q | ⟨y, _, q0, q⟩
      · rw [q, List.length_drop, hl]
      · have hm := List.mem_of_getElem? q0
        rw [List.mem_singleton.1 hm] at q
        rw [q, List.length_drop, hx]
    rw [List.length_take] at e1
    rw [List.length_drop] at e2
    omega
  · obtain ⟨k1, _⟩ := h2 0 h0
    unfold DS.head
    rcases k1 with q | ⟨y, _, q0, q⟩
    · exact .inl q
    · have hm := List.mem_of_getElem? q0
      rw [List.mem_singleton.1 hm] at q
      exact .inr q
/-- A log is opened. -/
theorem RI.opens {d : DS} {z c s : Nat} {q : List (Nat × List Chg)} {e : Nat} (h : RI d z c s q e) (hc : c < maxC) (ok : d.settles 0 [hdS (c + 1) s] = true) : RI (d.settle 0 [hdS (c + 1) s]) z (c + 1) s q e ∧ ∀ e' n, NW (d.settle 0 [hdS (c + 1) s]) z (c + 1) e' n := by
  obtain ⟨h1, h2, h3, h4, h5⟩ := head_alive h.all (hdS_len (c + 1) s) (by have := h.len; omega) ok
  have hb := body_head h2 h5 h.len
  have hd := h.hd
  exact ⟨h.head_set h1 h2 h3 hb ⟨by rw [h4], hd.2.1, by have := hd.2.2.1; omega, hc⟩ (by omega), fun e' n => h.nw hb (by omega) e' n⟩
/-- The power goes while a log is being opened. -/
theorem RI.opens_torn {d : DS} {z c s : Nat} {q : List (Nat × List Chg)} {e : Nat} (h : RI d z c s q e) (hc : c < maxC) (bad : d.settles 0 [hdS (c + 1) s] = false) (picks : List Int) : ∃ c', c ≤ c' ∧ c' ≤ c + 1 ∧ RI ((d.settle 0 [hdS (c + 1) s]).crash picks) z c' s q e := by
  obtain ⟨h1, h2, h3, h4, h5⟩ := head_torn h.vs h.all (hdS_len (c + 1) s) (by have := h.len; omega) bad picks
  have hb := body_head h2 h5 h.len
  have hd := h.hd
  rcases h4 with h4 | h4
  · exact ⟨c, Nat.le_refl _, by omega, h.head_set h1 h2 h3 hb ⟨h4.trans hd.1, hd.2⟩ (Nat.le_refl _)⟩
  · exact ⟨c + 1, by omega, Nat.le_refl _, h.head_set h1 h2 h3 hb ⟨h4, hd.2.1, by have := hd.2.2.1; omega, hc⟩ (by omega)⟩
/-- A log is truncated. -/
theorem RI.cut {d : DS} {z c s : Nat} {q : List (Nat × List Chg)} {e : Nat} (h : RI d z c s q e) (hc : c < maxC) (ok : d.settles 0 [hdS (c + 1) (c + 1)] = true) : RI (d.settle 0 [hdS (c + 1) (c + 1)]) z (c + 1) (c + 1) [] 0 ∧ ∀ e' n, NW (d.settle 0 [hdS (c + 1) (c + 1)]) z (c + 1) e' n := by
  obtain ⟨h1, h2, h3, h4, h5⟩ := head_alive h.all (hdS_len (c + 1) (c + 1)) (by have := h.len; omega) ok
  have hb := body_head h2 h5 h.len
  exact ⟨h.begin h1 h2 h3 hb ⟨by rw [h4], by omega, Nat.le_refl _, hc⟩ (by omega), fun e' n => h.nw hb (by omega) e' n⟩
/-- The power goes while a log is being truncated. -/
theorem RI.cut_torn {d : DS} {z c s : Nat} {q : List (Nat × List Chg)} {e : Nat} (h : RI d z c s q e) (hc : c < maxC) (bad : d.settles 0 [hdS (c + 1) (c + 1)] = false) (picks : List Int) : RI ((d.settle 0 [hdS (c + 1) (c + 1)]).crash picks) z c s q e ∨ RI ((d.settle 0 [hdS (c + 1) (c + 1)]).crash picks) z (c + 1) (c + 1) [] 0 := by
  obtain ⟨h1, h2, h3, h4, h5⟩ := head_torn h.vs h.all (hdS_len (c + 1) (c + 1)) (by have := h.len; omega) bad picks
  have hb := body_head h2 h5 h.len
  have hd := h.hd
  rcases h4 with h4 | h4
  · exact .inl (h.head_set h1 h2 h3 hb ⟨h4.trans hd.1, hd.2⟩ (Nat.le_refl _))
  · exact .inr (h.begin h1 h2 h3 hb ⟨h4, by omega, Nat.le_refl _, hc⟩ (by omega))
end Go.Proofs.Ytobnfadcffhfdaa
