/- A disk whose map gets a sector's versions, which were none: the theory of Copy. -/
import Derived.Test.YtiobmejnamdneaaClo3
namespace Go.Proofs.Ytiobmejnamdneaa
open Go.RowKit Go.Maps

theorem Fr.toGrown {w w' : World} {row : Option Nat} (h : Fr (fun k => row = some k) w w') : w.grownBy w' row :=
  ⟨h.os, h.tape, h.output, h.size, fun k hk hn => h.block k hk (fun e => hn (by rw [e]))⟩
theorem Fr.toGrown0 {w w' : World} (h : Fr (fun _ => False) w w') (row : Option Nat) : w.grownBy w' row :=
  ⟨h.os, h.tape, h.output, h.size, fun k hk _ => h.block k hk (fun q => q)⟩
section
variable {w w7 w8 : World} {F : Nat → Prop} {g R M : Nat} {D : DataW Value} {val : Nat → Value} {d : DS}
def DS.lay (d : DS) (i : Nat) (u : List (List UInt8)) : DS := { d with vs := fun j => if j = i then u else d.vs j }
theorem DiskW.lay (h : DiskW w F g R M D val d) {i : Nat} (hi : i < d.rd.length) {v' : Value} {u : List (List UInt8)} (hu0 : u ≠ []) (hu : ∀ x ∈ u, x.length = 128)
    (hrow : w7.ownsRow 0 31 128 v' u.length (cellsB u.flatten)) (f1 : Fr (fun _ => False) w w7)
    (hvb' : ∀ b, v'.ownBlock = some b → w.heap.size ≤ b) {k : Nat}
    (hm : w8.ownsMap Try.prog 3 HV M k (D.put (ky i) (.held v'))) (f2 : Fr (fun b => b = M) w7 w8) :
    DiskW w8 (fun b => F b ∨ w.heap.size ≤ b) g R M (D.put (ky i) (.held v')) (fun j => if j = i then v' else val j) (d.lay i u) := by
  have hMI := h.map.isMap
  have hlt := h.lt
  have f12 : Fr (fun b => b = M) w w8 := (f1.mono (fun _ _ q => q.elim)).trans f2 (fun _ _ q => q)
  have hn8 := h.n1
  have hlit : ∀ j, j < d.rd.length → WideAt.IsKeyLit (ky j) := fun j hj => ky_lit j (by omega)
  have hnew : ∀ b, v'.ownBlock = some b → w.heap.size ≤ b ∧ b ≠ g ∧ b ≠ R ∧ b ≠ M ∧ ∀ j, j < d.rd.length → d.vs j ≠ [] → (val j).ownBlock ≠ some b := fun b hb => by
    have h1 := hvb' b hb
    exact ⟨h1, by omega, by omega, by omega, fun j hj hv hb2 => by have := h.own_lt hj hv hb2; omega⟩
  constructor
  case fg => exact .inl h.fg
  case fR => exact .inl h.fR
  case fM => exact .inl h.fM
  case gR => exact h.gR
  case gM => exact h.gM
  case rM => exact h.rM
  case n0 => exact h.n0
  case n1 => exact h.n1
  case hl => exact h.hl
  case l0 => exact h.l0
  case l1 => exact h.l1
  case blk => exact h.blk.keep f12 (fun q => h.gM q)
  case red => exact h.red.keep f12 (fun q => h.rM q)
  case map => exact map_tight hm
  case keys =>
    intro k hk
    by_cases e : k = ky i
    · exact ⟨i, e, hi⟩
    · rw [Maps.has_put_other e] at hk
      exact h.keys k hk
  case opn =>
    intro j hj
    by_cases e : j = i
    · subst e
      rw [Maps.has_put_same hMI (hlit j hj)]
      simp [DS.lay, hu0]
    · rw [Maps.has_put_other (ky_inj e)]
      simpa [DS.lay, e] using h.opn j hj
  case at_ =>
    intro j hj hv z
    by_cases e : j = i
    · subst e
      rw [Maps.atKey_put_same hMI (hlit j hj)]
      simp
    · rw [Maps.atKey_put_other (ky_inj e)]
      simp only [DS.lay, e, if_false] at hv
      simpa [e] using h.at_ j hj hv z
  case row =>
    intro j hj hv
    by_cases e : j = i
    · subst e
      have := own_keep hrow f2 (fun b hb q => (hnew b hb).2.2.2.1 q)
      simpa [DS.lay] using this
    · simp only [DS.lay, e, if_false] at hv ⊢
      exact own_keep (h.row j hj hv) f12 (fun b hb q => (h.own j b hj hv hb).2.2.2 q)
  case all =>
    intro j hj x hx
    by_cases e : j = i
    · subst e
      simp only [DS.lay, if_true] at hx
      exact hu x hx
    · simp only [DS.lay, e, if_false] at hx
      exact h.all j hj x hx
  case own =>
    intro j b hj hv hb
    by_cases e : j = i
    · subst e
      simp only [if_true] at hb
      obtain ⟨q1, q2, q3, q4, _⟩ := hnew b hb
      exact ⟨.inr q1, q2, q3, q4⟩
    · simp only [DS.lay, e, if_false] at hv hb
      obtain ⟨q1, q2⟩ := h.own j b hj hv hb
      exact ⟨.inl q1, q2⟩
  case sep =>
    intro j l b hj hl hvj hvl hne hb
    by_cases ej : j = i
    · subst ej
      have el : l ≠ j := fun q => hne q.symm
      simp only [if_true] at hb
      simp only [DS.lay, el, if_false] at hvl ⊢
      exact (hnew b hb).2.2.2.2 l hl hvl
    · simp only [DS.lay, ej, if_false] at hvj hb
      by_cases el : l = i
      · subst el
        simp only [if_true]
        exact fun q => (hnew b q).2.2.2.2 j hj hvj hb
      · simp only [DS.lay, el, if_false] at hvl ⊢
        exact h.sep j l b hj hl hvj hvl hne hb
/-- The copy's disk, behind its map was made. -/
theorem DiskW.begin (h : DiskW w F g R M D val d) {g2 R2 M2 B c' : Nat} (hb : Blk w7 g2 63 (dskC (some ⟨R2, 0, none⟩) d.rd.length c' (.map (some M2)) d.fu d.lf d.dd))
    (hr : Blk w7 R2 31 (cellsB (d.rd.flatten ++ nought ((c' - d.rd.length) * 128))).toArray) (hm : w7.ownsMap Try.prog 3 HV M2 0 (.map [])) (hg : B ≤ g2) (hR : B ≤ R2) (hM : B ≤ M2) (hgR : g2 ≠ R2) (hgM : g2 ≠ M2) (hRM : R2 ≠ M2) :
    DiskW w7 (fun b => B ≤ b) g2 R2 M2 (.map []) (fun _ => undef) { d with vs := fun _ => [], cp := c', sp := nought ((c' - d.rd.length) * 128) } where
  fg := hg
  fR := hR
  fM := hM
  gR := hgR
  gM := hgM
  rM := hRM
  n0 := h.n0
  n1 := h.n1
  hl := h.hl
  l0 := h.l0
  l1 := h.l1
  blk := hb
  red := hr
  map := hm
  keys := fun k hk => by cases hk
  opn := fun i _ => ⟨fun hk => (by cases hk), fun hv => absurd rfl hv⟩
  at_ := fun i _ hv => absurd rfl hv
  row := fun i _ hv => absurd rfl hv
  all := fun i _ s hs => by cases hs
  own := fun i b _ hv => absurd rfl hv
  sep := fun i j b _ _ hv => absurd rfl hv
end
theorem make_map_some (t k e : TypeId) (ht : Try.prog.underlying t = some (.map k e)) (n : Int) (w : World) : (Instr.makeMap t (some (.int .i64 n))).run Try.prog w = .ok (.map (some w.heap.size)) (w.alloc (.map #[] 0)) := by
  unfold Instr.makeMap
  simp [run_underlying ht, asInt, newObj]
  rfl
theorem infoDsk : (Try.prog.info? 63).map (·.size) = some 5 := by kernel_rfl
end Go.Proofs.Ytiobmejnamdneaa
