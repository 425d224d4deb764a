/- wal: what a loss of power leaves of sectors that were being written (pure): the theory of WalLasts. -/
import Derived.Test.YtobnfadcffhfdaaVwt
namespace Go.Proofs.Ytobnfadcffhfdaa
open Go.RowKit Go.Maps

theorem crash_len (d : DS) (picks : List Int) : (d.crash picks).rd.length = d.rd.length := falls_len _ d
/-- Of the first k open sectors no versions are left. -/
theorem falls_gone (d : DS) (picks : List Int) : ∀ k, k ≤ d.openL.length → ∀ i, i ∈ d.openL.take k → (d.falls ((d.pairs picks).take k)).vs i = []
  | 0, _, i, hi => by simp at hi
  | k + 1, hk, i, hi => by
    have hl : k < d.openL.length := by omega
    have hp := pairs_at d picks hl
    rw [List.take_add_one, hp, Option.toList_some, falls_snoc]
    simp only [DS.left1, DS.fall]
    by_cases e : i = d.openL[k]
    · rw [if_pos e]
    · rw [if_neg e]
      refine falls_gone d picks k (by omega) i ?_
      rw [List.take_add_one, List.getElem?_eq_getElem hl] at hi
      rcases List.mem_append.1 hi with q | q
      · exact q
      · simp at q
        exact absurd q e
/-- What is read of a sector: as it was, or what a pick leaves of its versions. -/
theorem falls_read (d : DS) (picks : List Int) : ∀ k, k ≤ d.openL.length → ∀ i, (d.falls ((d.pairs picks).take k)).rd.getD i [] = d.rd.getD i [] ∨ (d.vs i ≠ [] ∧ ∃ p : Int, (d.falls ((d.pairs picks).take k)).rd.getD i [] = leftL (d.vs i) (pickN (d.vs i).length p))
  | 0, _, i => .inl rfl
  | k + 1, hk, i => by
    have hl : k < d.openL.length := by omega
    have hp := pairs_at d picks hl
    have hv := falls_next d picks hl
    have hln := falls_len ((d.pairs picks).take k) d
    obtain ⟨h1, h2⟩ := DS.openL_mem.1 (List.getElem_mem hl)
    rw [List.take_add_one, hp, Option.toList_some, falls_snoc]
    simp only [DS.left1, DS.fall, hv]
    by_cases e : i = d.openL[k]
    · right
      rw [e]
      refine ⟨h2, (picks[k]?).getD 0, ?_⟩
      rw [List.getD_eq_getElem?_getD, List.getElem?_set_self (by omega)]
      rfl
    · have := falls_read d picks k (by omega) i
      have e' : d.openL[k] ≠ i := fun q => e q.symm
      rwa [List.getD_eq_getElem?_getD, List.getElem?_set_ne e', ← List.getD_eq_getElem?_getD]
theorem crash_gone (d : DS) (picks : List Int) {i : Nat} (hi : i < d.rd.length) : (d.crash picks).vs i = [] := by
  show (d.falls (d.pairs picks)).vs i = []
  have h0 : (d.pairs picks).take d.openL.length = d.pairs picks := by rw [← pairs_len d picks]; exact List.take_length
  by_cases hv : d.vs i = []
  · rw [← hv]
    refine falls_vs _ _ _ fun p hp => ?_
    simp only [DS.pairs, List.mem_map] at hp
    obtain ⟨x, hx, rfl⟩ := hp
    have h1 : x.1 ∈ d.openL := by
      have := List.fst_mem_of_mem_zipIdx hx
      exact this
    intro e
    have h2 : x.1 = i := e
    rw [h2] at h1
    exact (DS.openL_mem.1 h1).2 hv
  · have := falls_gone d picks d.openL.length (Nat.le_refl _) i (by rw [List.take_length]; exact DS.openL_mem.2 ⟨hi, hv⟩)
    rwa [h0] at this
theorem crash_read (d : DS) (picks : List Int) (i : Nat) : (d.crash picks).rd.getD i [] = d.rd.getD i [] ∨ (d.vs i ≠ [] ∧ ∃ p : Int, (d.crash picks).rd.getD i [] = leftL (d.vs i) (pickN (d.vs i).length p)) := by
  have h0 : (d.pairs picks).take d.openL.length = d.pairs picks := by rw [← pairs_len d picks]; exact List.take_length
  have := falls_read d picks d.openL.length (Nat.le_refl _) i
  rwa [h0] at this
theorem crash_openL (d : DS) (picks : List Int) : (d.crash picks).openL = [] := by
  refine List.eq_nil_iff_forall_not_mem.2 fun i hi => ?_
  obtain ⟨h1, h2⟩ := DS.openL_mem.1 hi
  rw [crash_len] at h1
  exact h2 (crash_gone d picks h1)


/-- What a pick leaves, half by half. -/
theorem left_parts {vs : List (List UInt8)} (hl : ∀ v ∈ vs, v.length = 128) (h0 : vs ≠ []) (p : Int) : ∃ u ∈ vs, ∃ v ∈ vs, (leftL vs (pickN vs.length p)).take 64 = u.take 64 ∧ (leftL vs (pickN vs.length p)).drop 64 = v.drop 64 := by
  have h1 : 0 < vs.length := List.length_pos_iff.2 h0
  have hp : pickN vs.length p < 2 * vs.length - 1 := by
    unfold pickN
    have h1 := Int.emod_nonneg p (b := ((2 * vs.length - 1 : Nat) : Int)) (by omega)
    have h2 := Int.emod_lt_of_pos p (b := ((2 * vs.length - 1 : Nat) : Int)) (by omega)
    omega
  generalize pickN vs.length p = q at hp
  have hg : ∀ j, j < vs.length → vs.getD j [] ∈ vs := fun j hj => by
    rw [List.getD_eq_getElem?_getD, List.getElem?_eq_getElem hj]
    exact List.getElem_mem hj
  unfold leftL
  split
  · have m1 := hg ((q + 1) / 2) (by omega)
    have m2 := hg ((q + 1) / 2 - 1) (by omega)
    refine ⟨_, m1, _, m2, ?_, ?_⟩
    · unfold tornL
      rw [List.take_append_of_le_length (by rw [List.length_take, hl _ m1]; omega), List.take_take]
      simp
    · unfold tornL
      have h64 : ((vs.getD ((q + 1) / 2) []).take 64).length = 64 := by rw [List.length_take, hl _ m1]; omega
      exact List.drop_left' h64
  · have m1 := hg ((q + 1) / 2) (by omega)
    exact ⟨_, m1, _, m1, rfl, rfl⟩
theorem getD_set_self {l : List (List UInt8)} {i : Nat} {s : List UInt8} (h : i < l.length) : (l.set i s).getD i [] = s := by
  rw [List.getD_eq_getElem?_getD, List.getElem?_set_self h]
  rfl
theorem getD_set_ne {l : List (List UInt8)} {i j : Nat} {s : List UInt8} (h : i ≠ j) : (l.set i s).getD j [] = l.getD j [] := by
  rw [List.getD_eq_getElem?_getD, List.getElem?_set_ne h, ← List.getD_eq_getElem?_getD]
theorem lay_low {ss : List (List UInt8)} : ∀ {d : DS} {i j : Nat}, j < i → (d.lay i ss).vs j = d.vs j ∧ (d.lay i ss).rd.getD j [] = d.rd.getD j [] := by
  induction ss with
  | nil => intro d i j _; exact ⟨rfl, rfl⟩
  | cons s ss ih =>
    intro d i j hj
    have h1 := ih (d := d.write i s) (i := i + 1) (j := j) (by omega)
    refine ⟨h1.1.trans (write_vs (by omega)), h1.2.trans ?_⟩
    unfold DS.write
    split
    · exact getD_set_ne (by omega)
    · rfl
/-- What a sector may be while sectors are being laid: as it was, or the one laid, the elder one being kept. -/
theorem lay_cand {ss : List (List UInt8)} : ∀ {d : DS} {i : Nat}, (∀ j, i ≤ j → d.vs j = []) → i + ss.length ≤ d.rd.length → ∀ j, i ≤ j →
    ((d.lay i ss).vs j = [] ∧ (d.lay i ss).rd.getD j [] = d.rd.getD j []) ∨ (∃ s, ss[j - i]? = some s ∧ (d.lay i ss).vs j = [d.rd.getD j [], s] ∧ (d.lay i ss).rd.getD j [] = s) := by
  induction ss with
  | nil => intro d i hv _ j hj; exact .inl ⟨hv j hj, rfl⟩
  | cons s ss ih =>
    intro d i hv hl j hj
    rw [List.length_cons] at hl
    by_cases e : j = i
    · subst e
      have h1 := lay_low (ss := ss) (d := d.write j s) (i := j + 1) (j := j) (by omega)
      rw [Nat.sub_self]
      show ((d.write j s).lay (j + 1) ss).vs j = [] ∧ ((d.write j s).lay (j + 1) ss).rd.getD j [] = _ ∨ _
      by_cases ha : d.alive = true
      · right
        refine ⟨s, rfl, ?_, ?_⟩
        · show ((d.write j s).lay (j + 1) ss).vs j = _
          rw [h1.1]
          unfold DS.write
          rw [if_pos ha, hv j (Nat.le_refl _)]
          simp [DS.put]
        · show ((d.write j s).lay (j + 1) ss).rd.getD j [] = _
          rw [h1.2]
          unfold DS.write
          rw [if_pos ha]
          show (d.rd.set j s).getD j [] = s
          exact getD_set_self (by omega)
      · left
        have hd : d.write j s = d.step := by unfold DS.write; rw [if_neg ha]
        rw [h1.1, h1.2, hd]
        exact ⟨hv j (Nat.le_refl _), rfl⟩
    · have hw : ∀ k, i + 1 ≤ k → (d.write i s).vs k = [] := fun k hk => by
        rw [write_vs (by omega)]
        exact hv k (by omega)
      have hr : (d.write i s).rd.getD j [] = d.rd.getD j [] := by
        unfold DS.write
        split
        · exact getD_set_ne (by omega)
        · rfl
      have h1 := ih (d := d.write i s) (i := i + 1) hw (by rw [write_len]; omega) j (by omega)
      rw [hr] at h1
      show ((d.write i s).lay (i + 1) ss).vs j = [] ∧ ((d.write i s).lay (i + 1) ss).rd.getD j [] = _ ∨ ∃ t, (s :: ss)[j - i]? = some t ∧ ((d.write i s).lay (i + 1) ss).vs j = _ ∧ ((d.write i s).lay (i + 1) ss).rd.getD j [] = t
      have e1 : (s :: ss)[j - i]? = ss[j - (i + 1)]? := by
        rw [show j - i = (j - (i + 1)) + 1 by omega, List.getElem?_cons_succ]
      rw [e1]
      exact h1
theorem lay_alive {ss : List (List UInt8)} : ∀ {d : DS} {i : Nat}, (d.lay i ss).alive = true → (d.lay i ss).rd = layL d.rd i ss := by
  induction ss with
  | nil => intro d i _; rfl
  | cons s ss ih =>
    intro d i ha
    have h1 := ih (d := d.write i s) (i := i + 1) ha
    show ((d.write i s).lay (i + 1) ss).rd = layL (d.rd.set i s) (i + 1) ss
    rw [h1]
    congr 1
    by_cases hd : d.alive = true
    · unfold DS.write
      rw [if_pos hd]
      rfl
    · have hd2 : d.alive = false := by simpa using hd
      have := (lay_dead hd2 i (s :: ss)).1
      rw [ha] at this
      cases this
/-- What was laid and flushed. -/
theorem settle_alive {d : DS} {i : Nat} {ss : List (List UInt8)} (h : d.settles i ss = true) : (d.settle i ss).rd = layL d.rd i ss ∧ ∀ j, (d.settle i ss).vs j = [] := by
  unfold DS.settles at h
  unfold DS.settle DS.flushed
  rw [if_pos h]
  exact ⟨lay_alive h, fun j => rfl⟩
/-- What a loss of power leaves of sectors that were being laid when the disk died. -/
theorem torn_settle {d : DS} {i : Nat} {ss : List (List UInt8)} (hvs : ∀ j, d.vs j = []) (h128 : ∀ s ∈ d.rd, s.length = 128) (hs : ∀ s ∈ ss, s.length = 128) (hl : i + ss.length ≤ d.rd.length) (hdead : d.settles i ss = false) (picks : List Int) :
    ((d.settle i ss).crash picks).rd.length = d.rd.length ∧ ∀ j, j < d.rd.length →
      ((((d.settle i ss).crash picks).rd.getD j []).take 64 = (d.rd.getD j []).take 64 ∨ ∃ s, i ≤ j ∧ ss[j - i]? = some s ∧ (((d.settle i ss).crash picks).rd.getD j []).take 64 = s.take 64) ∧
      ((((d.settle i ss).crash picks).rd.getD j []).drop 64 = (d.rd.getD j []).drop 64 ∨ ∃ s, i ≤ j ∧ ss[j - i]? = some s ∧ (((d.settle i ss).crash picks).rd.getD j []).drop 64 = s.drop 64) := by
  unfold DS.settles at hdead
  have e : (d.settle i ss).rd = (d.lay i ss).rd ∧ (d.settle i ss).vs = (d.lay i ss).vs := by
    unfold DS.settle DS.flushed
    rw [hdead]
    exact ⟨rfl, rfl⟩
  refine ⟨by rw [crash_len, settle_len], fun j hj => ?_⟩
  have hget : (d.rd.getD j []).length = 128 := h128 _ (List.mem_of_getElem? (i := j) (by simp [hj]))
  rcases crash_read (d.settle i ss) picks j with q | ⟨q0, p, q⟩
  · rw [q, e.1]
    by_cases hij : i ≤ j
    · rcases lay_cand (d := d) (i := i) (ss := ss) (fun k _ => hvs k) hl j hij with ⟨_, q2⟩ | ⟨s, q1, _, q2⟩
      · rw [q2]
        exact ⟨.inl rfl, .inl rfl⟩
      · rw [q2]
        exact ⟨.inr ⟨s, hij, q1, rfl⟩, .inr ⟨s, hij, q1, rfl⟩⟩
    · rw [(lay_low (by omega)).2]
      exact ⟨.inl rfl, .inl rfl⟩
  · rw [e.2] at q0 q
    by_cases hij : i ≤ j
    · rcases lay_cand (d := d) (i := i) (ss := ss) (fun k _ => hvs k) hl j hij with ⟨q1, _⟩ | ⟨s, q1, q2, _⟩
      · exact absurd q1 q0
      · have hsl := hs s (List.mem_of_getElem? q1)
        have hall : ∀ v ∈ (d.lay i ss).vs j, v.length = 128 := fun v hv => by
          rw [q2] at hv
          simp only [List.mem_cons, List.not_mem_nil, or_false] at hv
          rcases hv with rfl | rfl
          · exact hget
          · exact hsl
        obtain ⟨u, hu, v, hv, k1, k2⟩ := left_parts hall q0 p
        rw [q2] at hu hv
        simp only [List.mem_cons, List.not_mem_nil, or_false] at hu hv
        rw [q, k1, k2]
        refine ⟨?_, ?_⟩
        · rcases hu with rfl | rfl
          · exact .inl rfl
          · exact .inr ⟨u, hij, q1, rfl⟩
        · rcases hv with rfl | rfl
          · exact .inl rfl
          · exact .inr ⟨v, hij, q1, rfl⟩
    · have := (lay_low (d := d) (i := i) (j := j) (ss := ss) (by omega)).1
      rw [this, hvs j] at q0
      exact absurd rfl q0
end Go.Proofs.Ytobnfadcffhfdaa
