/- The disk behind a loss of power: the theory. -/
import Derived.Test.YtiobmejnamdneaaFls
namespace Go.Proofs.Ytiobmejnamdneaa
open Go.RowKit Go.Maps

/-- A list of ints, in memory. -/
def IntsAt (w : World) (v : Value) (zs : List Int) : Prop := ∃ A c, v = .slice A zs.length c ∧ zs.length ≤ maxLen ∧ (0 < zs.length → ∃ b off, A = some ⟨b, off, none⟩ ∧ ∀ (i : Nat) (z : Int), zs[i]? = some z → w.cell? ⟨b, off + i, none⟩ = some (.int .i64 z))
theorem IntsAt.keep {F : Nat → Prop} {w w' : World} {v : Value} {zs : List Int} (h : IntsAt w v zs) (f : Fr F w w') (hF : ∀ b, v.ownBlock = some b → ¬ F b) : IntsAt w' v zs := by
  obtain ⟨A, c, rfl, h1, h2⟩ := h
  refine ⟨A, c, rfl, h1, fun q => ?_⟩
  obtain ⟨b, off, rfl, h3⟩ := h2 q
  exact ⟨b, off, rfl, fun i z hz => (f.cell (World.block_lt_of_cell? w _ (h3 i z hz)) (hF b rfl)).trans (h3 i z hz)⟩
theorem IntsAt.own {w : World} {base : Nat} {v : Value} {zs : List Int} (h : w.ownsRow base 3 1 v zs.length (zs.map encZ)) : IntsAt w v zs := by
  rcases h.2 with ⟨rfl, e⟩ | ⟨b, cap, cur, rfl, _, hb, hn, hc, hsz, htk⟩
  · exact ⟨none, 0, by rw [e], by rw [e]; exact Nat.zero_le _, fun q => by omega⟩
  · refine ⟨_, cap, rfl, Nat.le_trans hn hc, fun _ => ⟨b, 0, rfl, fun i z hz => ?_⟩⟩
    have hlt : i < zs.length := (List.getElem?_eq_some_iff.1 hz).1
    have hb' : Blk w b 3 cur := hb
    rw [hb'.cell, Nat.zero_add]
    have h1 : (cur.toList.take (zs.length * 1))[i]? = some (encZ z) := by rw [htk, List.getElem?_map, hz]; rfl
    rw [List.getElem?_take, if_pos (by omega)] at h1
    simpa using h1
/-- Versions in a row of one's own, as a list of sectors. -/
theorem secV_row {w : World} {v : Value} {u : List (List UInt8)} (h : w.ownsRow 0 31 128 v u.length (cellsB u.flatten)) (hu : ∀ x ∈ u, x.length = 128) : SecV w v u := by
  rcases h.2 with ⟨rfl, e⟩ | ⟨b, cap, cur, rfl, _, hb, hn, hc, hsz, htk⟩
  · exact ⟨none, 0, by rw [e], by rw [e]; exact Nat.le_refl _, Nat.zero_le _, fun q => by omega⟩
  · refine ⟨_, cap, rfl, hn, hc, fun _ => ⟨b, 0, rfl, flat_secs hu fun j z hz => ?_⟩⟩
    have hb' : Blk w b 31 cur := hb
    rw [hb'.cell, Nat.zero_add]
    rw [← htk, List.getElem?_take] at hz
    split at hz
    · simpa using hz
    · cases hz

/-- An open sector settled: z is left of it. -/
def DS.fall (d : DS) (i : Nat) (z : List UInt8) : DS := { d with rd := d.rd.set i z, vs := fun j => if j = i then [] else d.vs j }
section
variable {w w1 w2 : World} {F : Nat → Prop} {g R M : Nat} {D : DataW Value} {val : Nat → Value} {d : DS}
theorem DiskW.fall (h : DiskW w F g R M D val d) {i : Nat} {z : List UInt8} (hz : z.length = 128) (hR : Blk w1 R 31 (cellsB ((d.rd.set i z).flatten ++ d.sp)).toArray) (f1 : Fr (fun b => b = R) w w1)
    {k : Nat} (hm : w2.ownsMap Try.prog 3 HV M k (D.del (ky i))) (f2 : Fr (fun b => b = M) w1 w2) : DiskW w2 F g R M (D.del (ky i)) val (d.fall i z) := by
  have hlen : (d.fall i z).rd.length = d.rd.length := by simp [DS.fall]
  have f12 : Fr (fun b => b = R ∨ b = M) w w2 := (f1.mono (fun _ _ q => .inl q)).trans f2 (fun _ _ q => .inr q)
  have hvs : ∀ j, (d.fall i z).vs j ≠ [] → j ≠ i ∧ d.vs j ≠ [] := fun j hv => by
    by_cases e : j = i
    · exact absurd (by simp [DS.fall, e]) hv
    · exact ⟨e, by simpa [DS.fall, e] using hv⟩
  constructor
  case fg => exact h.fg
  case fR => exact h.fR
  case fM => exact h.fM
  case gR => exact h.gR
  case gM => exact h.gM
  case rM => exact h.rM
  case n0 => rw [hlen]; exact h.n0
  case n1 => rw [hlen]; exact h.n1
  case hl =>
    intro x hx
    rcases List.mem_or_eq_of_mem_set hx with hx | rfl
    · exact h.hl x hx
    · exact hz
  case l0 => exact h.l0
  case l1 => exact h.l1
  case blk =>
    rw [hlen]
    exact h.blk.keep f12 (fun q => by
      rcases q with q | q
      · exact h.gR q
      · exact h.gM q)
  case red => exact hR.keep f2 (fun e => h.rM e)
  case map => exact map_tight hm
  case keys =>
    intro k hk
    rw [hlen]
    by_cases e : k = ky i
    · subst e
      rw [Maps.has_del_same] at hk
      cases hk
    · rw [Maps.has_del_other e] at hk
      exact h.keys k hk
  case opn =>
    intro j hj
    rw [hlen] at hj
    by_cases e : j = i
    · subst e
      rw [Maps.has_del_same]
      simp [DS.fall]
    · rw [Maps.has_del_other (ky_inj e)]
      simpa [DS.fall, e] using h.opn j hj
  case at_ =>
    intro j hj hv z'
    rw [hlen] at hj
    obtain ⟨e, hv'⟩ := hvs j hv
    rw [Maps.atKey_del_other (ky_inj e)]
    exact h.at_ j hj hv' z'
  case row =>
    intro j hj hv
    rw [hlen] at hj
    obtain ⟨e, hv'⟩ := hvs j hv
    have e2 : (d.fall i z).vs j = d.vs j := by simp [DS.fall, e]
    rw [e2]
    exact own_keep (h.row j hj hv') f12 (fun b hb q => by
      obtain ⟨_, _, q2, q3⟩ := h.own j b hj hv' hb
      rcases q with q | q
      · exact q2 q
      · exact q3 q)
  case all =>
    intro j hj x hx
    rw [hlen] at hj
    by_cases e : j = i
    · simp [DS.fall, e] at hx
    · have e2 : (d.fall i z).vs j = d.vs j := by simp [DS.fall, e]
      rw [e2] at hx
      exact h.all j hj x hx
  case own =>
    intro j b hj hv hb
    rw [hlen] at hj
    exact h.own j b hj (hvs j hv).2 hb
  case sep =>
    intro j l b hj hl hvj hvl hne hb
    rw [hlen] at hj hl
    exact h.sep j l b hj hl (hvs j hvj).2 (hvs l hvl).2 hne hb
end

/-- All open sectors, one behind the other, by picks. -/
def DS.left1 (d : DS) (p : Nat × Int) : DS := d.fall p.1 (leftL (d.vs p.1) (pickN (d.vs p.1).length p.2))
def DS.falls (d : DS) (ps : List (Nat × Int)) : DS := ps.foldl DS.left1 d
def DS.pairs (d : DS) (picks : List Int) : List (Nat × Int) := d.openL.zipIdx.map fun p => (p.1, (picks[p.2]?).getD 0)
def DS.crash (d : DS) (picks : List Int) : DS := { d.falls (d.pairs picks) with fu := false, lf := 0, dd := false }
theorem falls_vs : ∀ (ps : List (Nat × Int)) (d : DS) (j : Nat), (∀ p ∈ ps, p.1 ≠ j) → (d.falls ps).vs j = d.vs j
  | [], _, _, _ => rfl
  | p :: ps, d, j, h => by
    have h1 := falls_vs ps (d.left1 p) j (fun q hq => h q (by simp [hq]))
    show ((d.left1 p).falls ps).vs j = _
    rw [h1]
    have : j ≠ p.1 := fun e => h p (by simp) e.symm
    simp [DS.left1, DS.fall, this]
theorem falls_len : ∀ (ps : List (Nat × Int)) (d : DS), (d.falls ps).rd.length = d.rd.length
  | [], _ => rfl
  | p :: ps, d => by
    show ((d.left1 p).falls ps).rd.length = _
    rw [falls_len ps]
    simp [DS.left1, DS.fall]
theorem falls_snoc (d : DS) (ps : List (Nat × Int)) (p : Nat × Int) : d.falls (ps ++ [p]) = (d.falls ps).left1 p := by simp [DS.falls]
theorem pairs_len (d : DS) (picks : List Int) : (d.pairs picks).length = d.openL.length := by simp [DS.pairs]
theorem pairs_at (d : DS) (picks : List Int) {k : Nat} (hk : k < d.openL.length) : (d.pairs picks)[k]? = some (d.openL[k], (picks[k]?).getD 0) := by
  simp [DS.pairs, hk]
/-- The sector whose turn it is has its versions still. -/
theorem falls_next (d : DS) (picks : List Int) {k : Nat} (hk : k < d.openL.length) : (d.falls ((d.pairs picks).take k)).vs d.openL[k] = d.vs d.openL[k] := by
  refine falls_vs _ _ _ fun p hp e => ?_
  obtain ⟨m, hm⟩ := List.getElem?_of_mem hp
  rw [List.getElem?_take] at hm
  split at hm
  · rename_i hmk
    rw [pairs_at d picks (by omega)] at hm
    injection hm with hm
    rw [← hm] at e
    have hnd : d.openL.Nodup := List.nodup_range.filter _
    have := (List.getElem_inj hnd).1 e
    omega
  · cases hm
end Go.Proofs.Ytiobmejnamdneaa
