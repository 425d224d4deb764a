/- What a loss of power leaves, sector by sector: the theory of DiskLasts. A loss of power with picks that came in; Open. -/
import Derived.Test.YtiobmejnamdneaaOne
namespace Go.Proofs.Ytiobmejnamdneaa
open Go.RowKit Go.Maps

/-- Of the first k open sectors no versions are left. -/
theorem falls_gone (d : DS) (picks : List Int) : ∀ k, k ≤ d.openL.length → ∀ i, i ∈ d.openL.take k → (d.falls ((d.pairs picks).take k)).vs i = []
  | 0, _, i, hi => by simp at hi
  | k + 1, hk, i, hi => by
    have hl : k < d.openL.length := by omega
    have hp := pairs_at d picks hl
    rw [List.take_add_one, hp, Option.toList_some, falls_snoc]
    simp only [DS.left1, DS.fall]
    by_cases e : i = d.openL[k]
    · rw [if_pos e]
    · rw [if_neg e]
      refine falls_gone d picks k (by omega) i ?_
      rw [List.take_add_one, List.getElem?_eq_getElem hl] at hi
      rcases List.mem_append.1 hi with q | q
      · exact q
      · simp at q
        exact absurd q e
/-- What is read of a sector: as it was, or what a pick leaves of its versions. -/
theorem falls_read (d : DS) (picks : List Int) : ∀ k, k ≤ d.openL.length → ∀ i, (d.falls ((d.pairs picks).take k)).rd.getD i [] = d.rd.getD i [] ∨ (d.vs i ≠ [] ∧ ∃ p : Int, (d.falls ((d.pairs picks).take k)).rd.getD i [] = leftL (d.vs i) (pickN (d.vs i).length p))
  | 0, _, i => .inl rfl
  | k + 1, hk, i => by
    have hl : k < d.openL.length := by omega
    have hp := pairs_at d picks hl
    have hv := falls_next d picks hl
    have hln := falls_len ((d.pairs picks).take k) d
    obtain ⟨h1, h2⟩ := DS.openL_mem.1 (List.getElem_mem hl)
    rw [List.take_add_one, hp, Option.toList_some, falls_snoc]
    simp only [DS.left1, DS.fall, hv]
    by_cases e : i = d.openL[k]
    · right
      rw [e]
      refine ⟨h2, (picks[k]?).getD 0, ?_⟩
      rw [List.getD_eq_getElem?_getD, List.getElem?_set_self (by omega)]
      rfl
    · have := falls_read d picks k (by omega) i
      have e' : d.openL[k] ≠ i := fun q => e q.symm
      rwa [List.getD_eq_getElem?_getD, List.getElem?_set_ne e', ← List.getD_eq_getElem?_getD]
theorem crash_gone (d : DS) (picks : List Int) {i : Nat} (hi : i < d.rd.length) : (d.crash picks).vs i = [] := by
  show (d.falls (d.pairs picks)).vs i = []
  have h0 : (d.pairs picks).take d.openL.length = d.pairs picks := by rw [← pairs_len d picks]; exact List.take_length
  by_cases hv : d.vs i = []
  · rw [← hv]
    refine falls_vs _ _ _ fun p hp => ?_
    simp only [DS.pairs, List.mem_map] at hp
    obtain ⟨x, hx, rfl⟩ := hp
    have h1 : x.1 ∈ d.openL := by
      have := List.fst_mem_of_mem_zipIdx hx
      exact this
    intro e
    have h2 : x.1 = i := e
    rw [h2] at h1
    exact (DS.openL_mem.1 h1).2 hv
  · have := falls_gone d picks d.openL.length (Nat.le_refl _) i (by rw [List.take_length]; exact DS.openL_mem.2 ⟨hi, hv⟩)
    rwa [h0] at this
theorem crash_read (d : DS) (picks : List Int) (i : Nat) : (d.crash picks).rd.getD i [] = d.rd.getD i [] ∨ (d.vs i ≠ [] ∧ ∃ p : Int, (d.crash picks).rd.getD i [] = leftL (d.vs i) (pickN (d.vs i).length p)) := by
  have h0 : (d.pairs picks).take d.openL.length = d.pairs picks := by rw [← pairs_len d picks]; exact List.take_length
  have := falls_read d picks d.openL.length (Nat.le_refl _) i
  rwa [h0] at this
theorem crash_openL (d : DS) (picks : List Int) : (d.crash picks).openL = [] := by
  refine List.eq_nil_iff_forall_not_mem.2 fun i hi => ?_
  obtain ⟨h1, h2⟩ := DS.openL_mem.1 hi
  rw [crash_len] at h1
  exact h2 (crash_gone d picks h1)

theorem getD_set_self {l : List (List UInt8)} {i : Nat} {s : List UInt8} (h : i < l.length) : (l.set i s).getD i [] = s := by
  rw [List.getD_eq_getElem?_getD, List.getElem?_set_self h]
  rfl
theorem getD_set_ne {l : List (List UInt8)} {i j : Nat} {s : List UInt8} (h : i ≠ j) : (l.set i s).getD j [] = l.getD j [] := by
  rw [List.getD_eq_getElem?_getD, List.getElem?_set_ne h, ← List.getD_eq_getElem?_getD]
/-- What a sector may hold: what it was, or one that was written into it. -/
def Cand (x0 : List UInt8) (cs : List ActD) (i : Nat) (v : List UInt8) : Prop := v = x0 ∨ ∃ a ∈ cs, a.a = (i : Int) ∧ v = a.s
theorem Cand.mono {x0 : List UInt8} {cs cs' : List ActD} {i : Nat} {v : List UInt8} (h : Cand x0 cs i v) (hs : ∀ a ∈ cs, a ∈ cs') : Cand x0 cs' i v := by
  rcases h with h | ⟨a, ha, h⟩
  · exact .inl h
  · exact .inr ⟨a, hs a ha, h⟩
/-- A write where there is such a sector, else nothing. -/
def DS.act (d : DS) (z : Int) (s : List UInt8) : DS := if 0 ≤ z ∧ z < (d.rd.length : Int) then d.write z.toNat s else d
theorem act_len (d : DS) (z : Int) (s : List UInt8) : (d.act z s).rd.length = d.rd.length := by
  unfold DS.act
  split
  · exact write_len
  · rfl
theorem act_free {d : DS} (h : d.free) (z : Int) (s : List UInt8) : (d.act z s).free := by
  unfold DS.act
  split
  · exact free_write h _ _
  · exact h
theorem act_most {d : DS} {N : Nat} (h : d.most N) (h1 : 1 ≤ N) (z : Int) (s : List UInt8) : (d.act z s).most (N + 1) := by
  unfold DS.act
  split
  · exact write_most h h1
  · exact fun i => Nat.le_succ_of_le (h i)
structure Lasts (d : DS) (r0 : List (List UInt8)) (cs : List ActD) : Prop where
  len : d.rd.length = r0.length
  free : d.free
  rd : ∀ i, i < r0.length → Cand (r0.getD i []) cs i (d.rd.getD i [])
  vs : ∀ i, i < r0.length → ∀ v ∈ d.vs i, Cand (r0.getD i []) cs i v
theorem Lasts.act {d : DS} {r0 : List (List UInt8)} {cs : List ActD} (h : Lasts d r0 cs) (a : ActD) : Lasts (d.act a.a a.s) r0 (cs ++ [a]) := by
  have hm : ∀ i v, Cand (r0.getD i []) cs i v → Cand (r0.getD i []) (cs ++ [a]) i v := fun i v q => q.mono (fun x hx => by simp [hx])
  refine ⟨(act_len _ _ _).trans h.len, act_free h.free _ _, fun i hi => ?_, fun i hi v hv => ?_⟩
  · unfold DS.act
    split
    · rename_i hz
      unfold DS.write
      rw [free_alive h.free, if_pos rfl]
      simp only [DS.put, DS.step]
      by_cases e : a.a.toNat = i
      · rw [e, getD_set_self (by rw [h.len]; exact hi)]
        exact .inr ⟨a, by simp, by omega, rfl⟩
      · rw [getD_set_ne e]
        exact hm i _ (h.rd i hi)
    · exact hm i _ (h.rd i hi)
  · unfold DS.act at hv
    split at hv
    · rename_i hz
      unfold DS.write at hv
      rw [free_alive h.free, if_pos rfl] at hv
      simp only [DS.put, DS.step] at hv
      split at hv
      · rename_i e
        rcases List.mem_append.1 hv with q | q
        · split at q
          · rw [List.mem_singleton.1 q, ← e]
            exact hm i _ (h.rd i hi)
          · rw [← e] at q
            exact hm i v (h.vs i hi v q)
        · rw [List.mem_singleton.1 q]
          exact .inr ⟨a, by simp, by omega, rfl⟩
      · exact hm i v (h.vs i hi v hv)
    · exact hm i v (h.vs i hi v hv)
/-- Half by half. -/
theorem Lasts.got {d : DS} {r0 : List (List UInt8)} {cs : List ActD} (h : Lasts d r0 cs) (picks : List Int) {i : Nat} (hi : i < r0.length) (hl : ∀ v ∈ d.vs i, v.length = 128) :
    ∃ a b, Cand (r0.getD i []) cs i a ∧ Cand (r0.getD i []) cs i b ∧ ((d.crash picks).rd.getD i []).take 64 = a.take 64 ∧ ((d.crash picks).rd.getD i []).drop 64 = b.drop 64 := by
  rcases crash_read d picks i with e | ⟨hv, p, e⟩
  · rw [e]
    exact ⟨_, _, h.rd i hi, h.rd i hi, rfl, rfl⟩
  · rw [e]
    have h0 : 0 < (d.vs i).length := List.length_pos_iff.2 hv
    have hp : pickN (d.vs i).length p < 2 * (d.vs i).length - 1 := by
      unfold pickN
      have h1 := Int.emod_nonneg p (b := ((2 * (d.vs i).length - 1 : Nat) : Int)) (by omega)
      have h2 := Int.emod_lt_of_pos p (b := ((2 * (d.vs i).length - 1 : Nat) : Int)) (by omega)
      omega
    generalize pickN (d.vs i).length p = q at hp
    have hg : ∀ j, j < (d.vs i).length → (d.vs i).getD j [] ∈ d.vs i := fun j hj => by
      rw [List.getD_eq_getElem?_getD, List.getElem?_eq_getElem hj]
      exact List.getElem_mem hj
    unfold leftL
    split
    · have m1 := hg ((q + 1) / 2) (by omega)
      have m2 := hg ((q + 1) / 2 - 1) (by omega)
      refine ⟨_, _, h.vs i hi _ m1, h.vs i hi _ m2, ?_, ?_⟩
      · unfold tornL
        rw [List.take_append_of_le_length (by rw [List.length_take, hl _ m1]; omega), List.take_take]
        simp
      · unfold tornL
        have h64 : (((d.vs i).getD ((q + 1) / 2) []).take 64).length = 64 := by rw [List.length_take, hl _ m1]; omega
        exact List.drop_left' h64
    · have m1 := hg ((q + 1) / 2) (by omega)
      exact ⟨_, _, h.vs i hi _ m1, h.vs i hi _ m1, rfl, rfl⟩
theorem Lasts.new {d : DS} (h : d.free) : Lasts d.flushed d.rd [] := by
  have e : d.flushed.rd = d.rd := by
    unfold DS.flushed
    split <;> rfl
  refine ⟨by rw [e], free_flushed h, fun i hi => .inl (by rw [e]), fun i hi v hv => ?_⟩
  unfold DS.flushed at hv
  rw [free_alive h, if_pos rfl] at hv
  simp [DS.flush] at hv
end Go.Proofs.Ytiobmejnamdneaa
