/- Who is popped off a heap of losses is who is asked first: pure. -/
import Derived.Test.YtfonchobolhkoaaDoorFhp
namespace Go.Proofs.YtfonchobolhkoaaDoor

/-- Of two losses with their places: which stands ahead. -/
def lossB (a b : Nat × Nat) : Bool := decide (b.1 < a.1 ∨ (a.1 = b.1 ∧ a.2 < b.2))
theorem lossB_ok : LessOk lossB where
  asym := fun a b h => by
    have := of_decide_eq_true h
    exact decide_eq_false (by omega)
  trans := fun a b c h k => by
    have h1 := of_decide_eq_false h
    have h2 := of_decide_eq_false k
    exact decide_eq_false (by omega)
/-- Those who were asked (T), and those who stand in the heap. -/
structure HeapSt (l : List Nat) (T : List Bool) (h : List (Nat × Nat)) : Prop where
  len : T.length = l.length
  nd : h.Nodup
  mem : ∀ p, p ∈ h ↔ T[p.2]? = some false ∧ l[p.2]? = some p.1
  pri : ∀ i j x y : Nat, T[i]? = some true → T[j]? = some false → l[i]? = some x → l[j]? = some y → y < x ∨ (y = x ∧ i < j)
theorem HeapSt.new {l : List Nat} {h : List (Nat × Nat)} (hp : h.Perm l.zipIdx) : HeapSt l (List.replicate l.length false) h where
  len := by simp
  nd := hp.nodup_iff.2 (by
    have : (l.zipIdx.map (·.2)).Nodup := by rw [List.zipIdx_map_snd]; exact List.nodup_range'
    exact List.Pairwise.of_map _ (fun a b hne q => hne (by rw [q])) this)
  mem := fun p => by
    rw [hp.mem_iff, List.mem_zipIdx_iff_getElem?]
    constructor
    · intro q
      obtain ⟨hl, _⟩ := List.getElem?_eq_some_iff.1 q
      exact ⟨by rw [List.getElem?_replicate, if_pos hl], q⟩
    · exact fun q => q.2
  pri := fun i j x y h1 => by
    rw [List.getElem?_replicate] at h1
    split at h1 <;> simp at h1
theorem HeapSt.step {l : List Nat} {T : List Bool} {h h' : List (Nat × Nat)} (s : HeapSt l T h) {p : Nat × Nat} (hp : (p :: h').Perm h) (hmin : ∀ q ∈ h, lossB q p = false) : HeapSt l (T.set p.2 true) h' ∧ T[p.2]? = some false := by
  have hpm : p ∈ h := hp.mem_iff.1 (List.mem_cons_self ..)
  obtain ⟨hT, hl⟩ := (s.mem p).1 hpm
  have hnd : (p :: h').Nodup := hp.nodup_iff.2 s.nd
  obtain ⟨hTl, _⟩ := List.getElem?_eq_some_iff.1 hT
  refine ⟨⟨by simp [s.len], (List.nodup_cons.1 hnd).2, fun q => ?_, fun i j x y h1 h2 hx hy => ?_⟩, hT⟩
  · have hq : q ∈ h' ↔ q ∈ h ∧ q ≠ p := by
      constructor
      · intro m
        exact ⟨hp.mem_iff.1 (List.mem_cons_of_mem _ m), fun e => (List.nodup_cons.1 hnd).1 (e ▸ m)⟩
      · rintro ⟨m, ne⟩
        rcases List.mem_cons.1 (hp.mem_iff.2 m) with e | e
        · exact absurd e ne
        · exact e
    rw [hq, s.mem q]
    constructor
    · rintro ⟨⟨a, b⟩, ne⟩
      refine ⟨?_, b⟩
      rw [List.getElem?_set_ne (fun e => ne ?_)]
      · exact a
      · rw [← e, hl] at b
        injection b with b
        exact Prod.ext b.symm e.symm
    · rintro ⟨a, b⟩
      by_cases e : p.2 = q.2
      · rw [← e, List.getElem?_set_self (by omega)] at a
        cases a
      · rw [List.getElem?_set_ne e] at a
        exact ⟨⟨a, b⟩, fun x => e (by rw [x])⟩
  · by_cases ej : p.2 = j
    · rw [← ej, List.getElem?_set_self (by omega)] at h2
      cases h2
    · rw [List.getElem?_set_ne ej] at h2
      have hq : (y, j) ∈ h := (s.mem (y, j)).2 ⟨h2, hy⟩
      by_cases ei : p.2 = i
      · have := of_decide_eq_false (hmin _ hq)
        rw [← ei, hl] at hx
        injection hx with hx
        simp only at this
        omega
      · rw [List.getElem?_set_ne ei] at h1
        exact s.pri i j x y h1 h2 hx hy
theorem HeapSt.fair {l : List Nat} {T : List Bool} {h : List (Nat × Nat)} (s : HeapSt l T h) {m : Nat} (hm : T.count true = m) : Fair l T m :=
  ⟨s.len, hm, (fair_at s.len).2 fun i j hi hj h1 h2 => s.pri i j l[i] l[j] h1 h2 (List.getElem?_eq_getElem hi) (List.getElem?_eq_getElem hj)⟩
end Go.Proofs.YtfonchobolhkoaaDoor
