/- The program's disk and the document's, side by side: the theory. -/
import Derived.Test.YtiobmejnamdneaaRcr
namespace Go.Proofs.Ytiobmejnamdneaa
open Go.RowKit Go.Maps

/-- A sector in both: settled, or open with its versions. -/
def SimAt (d : DS) (r : RD) (i : Nat) : Prop :=
  (d.vs i = [] ∧ r.V[i]? = some [d.rd.getD i []]) ∨ (2 ≤ (d.vs i).length ∧ r.V[i]? = some (d.vs i) ∧ (d.vs i).getD ((d.vs i).length - 1) [] = d.rd.getD i [])
structure Sim (d : DS) (r : RD) : Prop where
  len : d.rd.length = r.V.length
  each : ∀ i, i < d.rd.length → SimAt d r i
  left : r.left = if d.fu then d.lf else -1
  dead : r.dead = d.dd
  l0 : 0 ≤ d.lf
  l1 : d.lf ≤ 9223372036854775807
theorem sim_new {n : Nat} : Sim (newD n) (newR n) := ⟨by simp [newD, newR], fun i hi => .inl ⟨rfl, by
  have hi' : i < n := by simpa [newD] using hi
  simp [newD, newR, hi']⟩, rfl, rfl, by simp [newD], by simp [newD]⟩
section
variable {d : DS} {r : RD} {i : Nat}
theorem Sim.left1 (h : Sim d r) : r.left ≤ 9223372036854775807 := by
  rw [h.left]
  split
  · exact h.l1
  · omega
theorem Sim.out (h : Sim d r) : r.out = !d.alive := by
  unfold RD.out DS.alive deadS
  rw [h.left, h.dead]
  cases d.fu <;> cases d.dd <;> simp
theorem SimAt.open_ (h : SimAt d r i) : (d.vs i ≠ []) ↔ 1 < (r.V.getD i []).length := by
  rcases h with ⟨h1, h2⟩ | ⟨h1, h2, _⟩
  · rw [List.getD_eq_getElem?_getD, h2, h1]; simp
  · rw [List.getD_eq_getElem?_getD, h2]
    simp only [Option.getD_some]
    constructor
    · intro _; omega
    · intro _ e; rw [e] at h1; simp at h1
theorem SimAt.read (h : SimAt d r i) : ∃ ss : List (List UInt8), r.V[i]? = some ss ∧ ss.getD (ss.length - 1) [] = d.rd.getD i [] := by
  rcases h with ⟨_, h2⟩ | ⟨_, h2, h3⟩
  · exact ⟨_, h2, rfl⟩
  · exact ⟨_, h2, h3⟩
theorem SimAt.ver (h : SimAt d r i) : r.V[i]? = some (if d.vs i = [] then [d.rd.getD i []] else d.vs i) := by
  rcases h with ⟨h1, h2⟩ | ⟨h1, h2, _⟩
  · rw [if_pos h1]; exact h2
  · rw [if_neg (by intro e; rw [e] at h1; simp at h1)]; exact h2
theorem Sim.openL (h : Sim d r) : d.openL = r.openL := by
  unfold DS.openL RD.openL RD.openTo
  rw [← h.len]
  refine List.filter_congr fun i hi => ?_
  have hi' := List.mem_range.1 hi
  have := SimAt.open_ (h.each i hi')
  rw [List.getD_eq_getElem?_getD] at this
  cases hv : d.vs i with
  | nil =>
    rw [hv] at this
    have : ¬ 1 < (r.V[i]?.getD []).length := fun q => (this.2 q) rfl
    simp
    omega
  | cons a l =>
    rw [hv] at this
    have := this.1 (by simp)
    simp [this]
theorem Sim.step (h : Sim d r) : Sim d.step r.stepD := by
  have ho := h.out
  refine ⟨h.len, h.each, ?_, ?_, ?_, ?_⟩
  · show (if r.out then r.left else if 0 < r.left then r.left - 1 else r.left) = if d.fu then leftS d.fu d.lf d.dd else -1
    have h1 := h.left
    have h2 := h.l0
    rw [ho]
    unfold DS.alive leftS
    cases hd : deadS d.fu d.lf d.dd with
    | true =>
      cases hf : d.fu <;> simp [h1, hf]
    | false =>
      cases hf : d.fu with
      | false => simp [h1, hf]
      | true =>
        rw [hf] at h1 hd
        simp only [if_true] at h1
        have hne : d.lf ≠ 0 := by
          intro e
          rw [e] at hd
          simp [deadS] at hd
        have hpos : 0 < d.lf := by omega
        simp [h1, hpos]
  · show r.out = deadS d.fu d.lf d.dd
    rw [ho]
    simp [DS.alive]
  · show 0 ≤ leftS d.fu d.lf d.dd
    have h2 := h.l0
    unfold leftS deadS
    cases d.fu <;> cases d.dd <;> simp <;> (try omega)
  · show leftS d.fu d.lf d.dd ≤ _
    have h2 := h.l1
    unfold leftS deadS
    cases d.fu <;> cases d.dd <;> simp <;> (try omega)
theorem Sim.write (h : Sim d r) {i : Nat} (hi : i < d.rd.length) (s : List UInt8) (ha : d.alive = true) : Sim (d.write i s) { r.stepD with V := r.V.set i ((if d.vs i = [] then [d.rd.getD i []] else d.vs i) ++ [s]) } := by
  have h1 := h.step
  unfold DS.write
  rw [ha, if_pos rfl]
  have hil : i < r.V.length := by rw [← h.len]; exact hi
  refine ⟨by simpa [DS.put, DS.step] using h.len, fun j hj => ?_, h1.left, h1.dead, h1.l0, h1.l1⟩
  have hj' : j < d.rd.length := by simpa [DS.put, DS.step] using hj
  by_cases e : j = i
  · subst e
    right
    simp only [DS.put, DS.step, if_true]
    refine ⟨?_, by rw [List.getElem?_set_self hil], ?_⟩
    · split
      · simp
      · rename_i hne
        have := List.length_pos_iff.2 hne
        simp
        omega
    · rw [getD_set_self hj', List.getD_eq_getElem?_getD]
      simp
  · have e' : i ≠ j := fun q => e q.symm
    have := h.each j hj'
    unfold SimAt at this ⊢
    simp only [DS.put, DS.step, if_neg e]
    rw [getD_set_ne e', List.getElem?_set_ne e']
    exact this
theorem Sim.flush (h : Sim d r) (ha : d.alive = true) : Sim d.flushed { r.stepD with V := r.V.map lastOne } := by
  have h1 := h.step
  unfold DS.flushed
  rw [ha, if_pos rfl]
  refine ⟨by simpa [DS.flush, DS.step] using h.len, fun j hj => ?_, h1.left, h1.dead, h1.l0, h1.l1⟩
  have hj' : j < d.rd.length := by simpa [DS.flush, DS.step] using hj
  left
  obtain ⟨ss, hs, hl⟩ := SimAt.read (h.each j hj')
  refine ⟨rfl, ?_⟩
  simp only [DS.flush, DS.step, List.getElem?_map, hs, Option.map_some, lastOne, hl]
theorem Sim.noflush (h : Sim d r) (ha : d.alive = false) : Sim d.flushed r.stepD := by
  unfold DS.flushed
  rw [ha]
  exact h.step
theorem Sim.nowrite (h : Sim d r) (ha : d.alive = false) (i : Nat) (s : List UInt8) : Sim (d.write i s) r.stepD := by
  unfold DS.write
  rw [ha]
  exact h.step
theorem Sim.fuse (h : Sim d r) {k : Int} (h0 : 0 ≤ k) (h1 : k ≤ 9223372036854775807) : Sim { d with fu := true, lf := k } { r with left := k } := ⟨h.len, h.each, rfl, h.dead, h0, h1⟩
theorem Sim.fall (h : Sim d r) {p : Nat × Int} (hp : p.1 < d.rd.length) (hv : d.vs p.1 ≠ []) : Sim (d.left1 p) (r.left1 p) := by
  have hil : p.1 < r.V.length := by rw [← h.len]; exact hp
  have hV : r.V.getD p.1 [] = d.vs p.1 := by
    have := SimAt.ver (h.each p.1 hp)
    rw [if_neg hv] at this
    rw [List.getD_eq_getElem?_getD, this]
    rfl
  refine ⟨by simpa [DS.left1, DS.fall, RD.left1] using h.len, fun j hj => ?_, h.left, h.dead, h.l0, h.l1⟩
  have hj' : j < d.rd.length := by simpa [DS.left1, DS.fall] using hj
  by_cases e : j = p.1
  · subst e
    left
    simp only [DS.left1, DS.fall, RD.left1, if_true, hV]
    exact ⟨trivial, by rw [List.getElem?_set_self hil, getD_set_self hp]⟩
  · have e' : p.1 ≠ j := fun q => e q.symm
    have := h.each j hj'
    unfold SimAt at this ⊢
    simp only [DS.left1, DS.fall, RD.left1, if_neg e]
    rw [getD_set_ne e', List.getElem?_set_ne e']
    exact this
theorem Sim.falls : ∀ (ps : List (Nat × Int)) {d : DS} {r : RD}, Sim d r → (ps.map (·.1)).Nodup → (∀ p ∈ ps, p.1 < d.rd.length ∧ d.vs p.1 ≠ []) → Sim (d.falls ps) (r.falls ps)
  | [], d, r, h, _, _ => h
  | p :: ps, d, r, h, hn, hp => by
    obtain ⟨h1, h2⟩ := hp p (by simp)
    rw [List.map_cons, List.nodup_cons] at hn
    refine Sim.falls ps (h.fall h1 h2) hn.2 fun q hq => ?_
    obtain ⟨q1, q2⟩ := hp q (by simp [hq])
    have hne : q.1 ≠ p.1 := fun e => hn.1 (List.mem_map.2 ⟨q, hq, e⟩)
    refine ⟨by simpa [DS.left1, DS.fall] using q1, ?_⟩
    simpa [DS.left1, DS.fall, hne] using q2
theorem Sim.crash (h : Sim d r) (picks : List Int) : Sim (d.crash picks) (r.crash picks) := by
  have hp : d.pairs picks = r.pairs picks := by unfold DS.pairs RD.pairs; rw [h.openL]
  have hm : (d.pairs picks).map (·.1) = d.openL := by
    refine List.ext_getElem? fun k => ?_
    by_cases hk : k < d.openL.length
    · rw [List.getElem?_map, pairs_at d picks hk, List.getElem?_eq_getElem hk]
      rfl
    · rw [List.getElem?_eq_none (by rw [List.length_map, pairs_len]; omega), List.getElem?_eq_none (by omega)]
  have h1 := Sim.falls (d.pairs picks) h (by rw [hm]; exact List.nodup_range.filter _) (fun p hq => by
    have : p.1 ∈ d.openL := by rw [← hm]; exact List.mem_map.2 ⟨p, hq, rfl⟩
    exact DS.openL_mem.1 this)
  unfold DS.crash RD.crash
  rw [← hp]
  exact ⟨h1.len, h1.each, rfl, rfl, by simp, by simp⟩
end
end Go.Proofs.Ytiobmejnamdneaa
