/- After a life: what the power's going may leave. -/
import Derived.Test.YtobnfadcffhfdaaVps
namespace Go.Proofs.Ytobnfadcffhfdaa

/-- Whatever picks: the disk is at rest again, its count is at most K, its records are one of ms. -/
def Aft (d : DS) (z K : Nat) (ms : List (List (List Chg))) : Prop := ∀ picks, ∃ c s q e, c ≤ K ∧ RI (d.crash picks) z c s q e ∧ q.map (·.2) ∈ ms
theorem Aft.mono {d : DS} {z K K' : Nat} {ms ms' : List (List (List Chg))} (h : Aft d z K ms) (hK : K ≤ K') (hm : ∀ m ∈ ms, m ∈ ms') : Aft d z K' ms' := fun picks => by
  obtain ⟨c, s, q, e, h1, h2, h3⟩ := h picks
  exact ⟨c, s, q, e, Nat.le_trans h1 hK, h2, hm _ h3⟩
section
variable {d : DS} {z c s e K : Nat} {q : List (Nat × List Chg)} {r : List Chg}
theorem Aft.rest (h : RI d z c s q e) (hc : c ≤ K) : Aft d z K [q.map (·.2)] := fun picks => by
  obtain ⟨h1, h2⟩ := crash_rest h.vs picks
  exact ⟨c, s, q, e, hc, h.same h1 h2, List.mem_singleton.2 rfl⟩
theorem Aft.opens (h : RI d z c s q e) (hc : c < maxC) (hK : c + 1 ≤ K) (bad : d.settles 0 [hdS (c + 1) s] = false) : Aft (d.settle 0 [hdS (c + 1) s]) z K [q.map (·.2)] := fun picks => by
  obtain ⟨c', _, h2, h3⟩ := h.opens_torn hc bad picks
  exact ⟨c', s, q, e, Nat.le_trans h2 hK, h3, List.mem_singleton.2 rfl⟩
theorem Aft.cut (h : RI d z c s q e) (hc : c < maxC) (hK : c + 1 ≤ K) (bad : d.settles 0 [hdS (c + 1) (c + 1)] = false) : Aft (d.settle 0 [hdS (c + 1) (c + 1)]) z K [q.map (·.2), []] := fun picks => by
  rcases h.cut_torn hc bad picks with h3 | h3
  · exact ⟨c, s, q, e, by omega, h3, List.mem_cons_self⟩
  · exact ⟨c + 1, c + 1, [], 0, hK, h3, List.mem_cons_of_mem _ (List.mem_singleton.2 rfl)⟩
theorem Aft.commit (h : RI d z c s q e) (nw : NW d z c e q.length) (hm : mayR r = true) (h5 : ∀ x ∈ r, x.p.length = 512) (ht : mayT c (q.length : Int) = true) (room : e + needN ((bytesR r).length : Nat) ≤ z) (hK : c ≤ K) (bad : d.settles (1 + e) (rowS c q.length r) = false) :
    Aft (d.settle (1 + e) (rowS c q.length r)) z K [q.map (·.2), q.map (·.2) ++ [r]] := fun picks => by
  rcases h.commit_torn nw hm h5 ht room bad picks with h3 | h3
  · exact ⟨c, s, q, e, hK, h3, List.mem_cons_self⟩
  · exact ⟨c, s, _, _, hK, h3, List.mem_cons_of_mem _ (List.mem_singleton.2 (by simp))⟩
/-- In a life: at rest, nothing of the next number tried. -/
structure LifeS (d : DS) (z c s : Nat) (q : List (Nat × List Chg)) (e K : Nat) : Prop where
  ri : RI d z c s q e
  nw : NW d z c e q.length
  cK : c ≤ K
theorem LifeS.opens (h : RI d z c s q e) (hc : c < maxC) (hK : c + 1 ≤ K) (ok : d.settles 0 [hdS (c + 1) s] = true) : LifeS (d.settle 0 [hdS (c + 1) s]) z (c + 1) s q e K := ⟨(h.opens hc ok).1, (h.opens hc ok).2 _ _, hK⟩
theorem LifeS.cut (h : RI d z c s q e) (hc : c < maxC) (hK : c + 1 ≤ K) (ok : d.settles 0 [hdS (c + 1) (c + 1)] = true) : LifeS (d.settle 0 [hdS (c + 1) (c + 1)]) z (c + 1) (c + 1) [] 0 K := ⟨(h.cut hc ok).1, (h.cut hc ok).2 _ _, hK⟩
theorem LifeS.commit (h : LifeS d z c s q e K) (hm : mayR r = true) (h5 : ∀ x ∈ r, x.p.length = 512) (ht : mayT c (q.length : Int) = true) (room : e + needN ((bytesR r).length : Nat) ≤ z) (ok : d.settles (1 + e) (rowS c q.length r) = true) :
    LifeS (d.settle (1 + e) (rowS c q.length r)) z c s (q ++ [(c, r)]) (e + needN ((bytesR r).length : Nat)) K :=
  ⟨(h.ri.commit h.nw hm h5 ht room ok).1, by rw [List.length_append]; exact (h.ri.commit h.nw hm h5 ht room ok).2, h.cK⟩
end
end Go.Proofs.Ytobnfadcffhfdaa
