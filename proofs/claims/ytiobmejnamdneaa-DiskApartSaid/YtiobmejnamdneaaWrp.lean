/- The disk behind a write: the theory. -/
import Derived.Test.YtiobmejnamdneaaNew
namespace Go.Proofs.Ytiobmejnamdneaa
open Go.RowKit

theorem flat_len : ∀ {ss : List (List UInt8)}, (∀ s ∈ ss, s.length = 128) → ss.flatten.length = ss.length * 128
  | [], _ => rfl
  | s :: ss, h => by
    rw [List.flatten_cons, List.length_append, flat_len (fun x hx => h x (by simp [hx])), h s (by simp), List.length_cons]
    omega
theorem flat_set : ∀ {ss : List (List UInt8)} {i : Nat} {s : List UInt8}, (∀ x ∈ ss, x.length = 128) → s.length = 128 → i < ss.length → patch ss.flatten (i * 128) s = (ss.set i s).flatten
  | [], i, s, _, _, hi => by simp at hi
  | x :: ss, 0, s, h, hs, _ => by
    have hx := h x (by simp)
    simp [patch, hs, hx]
  | x :: ss, i + 1, s, h, hs, hi => by
    have hx := h x (by simp)
    have ih := flat_set (ss := ss) (i := i) (s := s) (fun y hy => h y (by simp [hy])) hs (by simpa using hi)
    rw [List.set_cons_succ, List.flatten_cons, List.flatten_cons, ← ih]
    unfold patch
    have e1 : (i + 1) * 128 = x.length + i * 128 := by omega
    have e2 : (i + 1) * 128 + s.length = x.length + (i * 128 + s.length) := by omega
    rw [e2, e1, List.take_length_add_append, List.drop_length_add_append]
    simp

theorem patch_app {a b m : List UInt8} {o : Nat} (h : o + m.length ≤ a.length) : patch (a ++ b) o m = patch a o m ++ b := by
  unfold patch
  rw [List.take_append_of_le_length (by omega), List.drop_append_of_le_length h]
  simp

/-- The disk behind a write into sector i: v is what its versions were, v' what they are; u the versions. -/
def DS.put (d : DS) (i : Nat) (u : List (List UInt8)) (s : List UInt8) : DS := { d with rd := d.rd.set i s, vs := fun j => if j = i then u ++ [s] else d.vs j }
section
variable {w w7 w8 w9 : World} {F : Nat → Prop} {g R M : Nat} {D : DataW Value} {val : Nat → Value} {d : DS}
theorem DiskW.put (h : DiskW w F g R M D val d) {i B : Nat} (hi : i < d.rd.length) {v v' : Value} {u : List (List UInt8)} {s : List UInt8} (hs : s.length = 128) (hu : ∀ x ∈ u, x.length = 128)
    (hB : B ≤ w.heap.size) (hrow : w7.ownsRow 0 31 128 v' (u.length + 1) (cellsB (u ++ [s]).flatten)) (f1 : Fr (fun b => v.ownBlock = some b) w w7)
    (hvb : ∀ b, v.ownBlock = some b → (F b ∨ B ≤ b) ∧ b ≠ g ∧ b ≠ R ∧ b ≠ M ∧ ∀ j, j < d.rd.length → d.vs j ≠ [] → j ≠ i → (val j).ownBlock ≠ some b)
    (hvb' : v'.ownBlock = v.ownBlock ∨ v'.ownBlock = some w.heap.size) {k : Nat}
    (hm : w8.ownsMap Try.prog 3 HV M k (D.put (ky i) (.held v'))) (f2 : Fr (fun b => b = M) w7 w8)
    (hR : Blk w9 R 31 (cellsB ((d.rd.set i s).flatten ++ d.sp)).toArray) (f3 : Fr (fun b => b = R) w8 w9) :
    DiskW w9 (fun b => F b ∨ B ≤ b) g R M (D.put (ky i) (.held v')) (fun j => if j = i then v' else val j) (d.put i u s) := by
  have hMI := h.map.isMap
  have hlen : (d.put i u s).rd.length = d.rd.length := by simp [DS.put]
  have hgl := h.blk.lt
  have hRl := h.red.lt
  have hMl := h.map.lt
  have f12 : Fr (fun b => v.ownBlock = some b ∨ b = M ∨ b = R) w w9 := ((f1.mono (fun _ _ q => .inl q)).trans f2 (fun _ _ q => .inr (.inl q))).trans f3 (fun _ _ q => .inr (.inr q))
  have hn8 := h.n1
  have hlit : ∀ j, j < d.rd.length → WideAt.IsKeyLit (ky j) := fun j hj => ky_lit j (by omega)
  have hown : ∀ j b, j < d.rd.length → d.vs j ≠ [] → j ≠ i → (val j).ownBlock = some b → ¬ (v.ownBlock = some b ∨ b = M ∨ b = R) := fun j b hj hv hne hb q => by
    obtain ⟨_, _, h2, h3⟩ := h.own j b hj hv hb
    rcases q with q | q | q
    · exact (hvb b q).2.2.2.2 j hj hv hne hb
    · exact h3 q
    · exact h2 q
  have hnew : ∀ b, v'.ownBlock = some b → (F b ∨ B ≤ b) ∧ b ≠ g ∧ b ≠ R ∧ b ≠ M ∧ ∀ j, j < d.rd.length → d.vs j ≠ [] → j ≠ i → (val j).ownBlock ≠ some b := fun b hb => by
    rcases hvb' with e | e
    · exact hvb b (by rw [← e]; exact hb)
    · rw [e] at hb
      injection hb with hb
      subst hb
      refine ⟨.inr hB, by omega, by omega, by omega, fun j hj hv hne hb => ?_⟩
      have hr := h.row j hj hv
      rcases hr.2 with ⟨q, _⟩ | ⟨b', cap, cur, q, _, hbb, _⟩
      · rw [q] at hb; simp [Value.ownBlock] at hb
      · rw [q] at hb
        have hb2 : b' = w.heap.size := by simpa [Value.ownBlock] using hb
        have := (Array.getElem?_eq_some_iff.1 hbb).1
        omega
  constructor
  case fg => exact .inl h.fg
  case fR => exact .inl h.fR
  case fM => exact .inl h.fM
  case gR => exact h.gR
  case gM => exact h.gM
  case rM => exact h.rM
  case n0 => rw [hlen]; exact h.n0
  case n1 => rw [hlen]; exact h.n1
  case hl =>
    intro x hx
    rcases List.mem_or_eq_of_mem_set hx with hx | rfl
    · exact h.hl x hx
    · exact hs
  case l0 => exact h.l0
  case l1 => exact h.l1
  case blk =>
    rw [hlen]
    exact h.blk.keep f12 (fun q => by
      rcases q with q | q | q
      · exact (hvb g q).2.1 rfl
      · exact h.gM q
      · exact h.gR q)
  case red => exact hR
  case map => exact map_tight (map_keep hm f3 (fun e => h.rM e.symm))
  case keys =>
    intro k hk
    rw [hlen]
    by_cases e : k = ky i
    · exact ⟨i, e, hi⟩
    · rw [Maps.has_put_other e] at hk
      exact h.keys k hk
  case opn =>
    intro j hj
    rw [hlen] at hj
    by_cases e : j = i
    · subst e
      rw [Maps.has_put_same hMI (hlit j hj)]
      simp [DS.put]
    · rw [Maps.has_put_other (ky_inj e)]
      simpa [DS.put, e] using h.opn j hj
  case at_ =>
    intro j hj hv z
    rw [hlen] at hj
    by_cases e : j = i
    · subst e
      rw [Maps.atKey_put_same hMI (hlit j hj)]
      simp
    · rw [Maps.atKey_put_other (ky_inj e)]
      simp only [DS.put, e, if_false] at hv
      simpa [e] using h.at_ j hj hv z
  case row =>
    intro j hj hv
    rw [hlen] at hj
    by_cases e : j = i
    · subst e
      have := own_keep hrow (f2.mono (G := fun b => b = M ∨ b = R) (fun _ _ q => .inl q) |>.trans f3 (fun _ _ q => .inr q)) (fun b hb q => by
        obtain ⟨_, _, q2, q3, _⟩ := hnew b hb
        rcases q with q | q
        · exact q3 q
        · exact q2 q)
      simpa [DS.put] using this
    · simp only [DS.put, e, if_false] at hv ⊢
      exact own_keep (h.row j hj hv) f12 (fun b hb => hown j b hj hv e hb)
  case all =>
    intro j hj x hx
    rw [hlen] at hj
    by_cases e : j = i
    · subst e
      simp only [DS.put, if_true, List.mem_append, List.mem_singleton] at hx
      rcases hx with hx | rfl
      · exact hu x hx
      · exact hs
    · simp only [DS.put, e, if_false] at hx
      exact h.all j hj x hx
  case own =>
    intro j b hj hv hb
    rw [hlen] at hj
    by_cases e : j = i
    · subst e
      simp only [if_true] at hb
      obtain ⟨q1, q2, q3, q4, _⟩ := hnew b hb
      exact ⟨q1, q2, q3, q4⟩
    · simp only [DS.put, e, if_false] at hv hb
      obtain ⟨q1, q2⟩ := h.own j b hj hv hb
      exact ⟨.inl q1, q2⟩
  case sep =>
    intro j l b hj hl hvj hvl hne hb
    rw [hlen] at hj hl
    by_cases ej : j = i
    · subst ej
      have el : l ≠ j := fun q => hne q.symm
      simp only [if_true] at hb
      simp only [DS.put, el, if_false] at hvl ⊢
      exact (hnew b hb).2.2.2.2 l hl hvl el
    · simp only [DS.put, ej, if_false] at hvj hb
      by_cases el : l = i
      · subst el
        simp only [if_true]
        exact fun q => (hnew b q).2.2.2.2 j hj hvj ej hb
      · simp only [DS.put, el, if_false] at hvl ⊢
        exact h.sep j l b hj hl hvj hvl hne hb
end
end Go.Proofs.Ytiobmejnamdneaa
