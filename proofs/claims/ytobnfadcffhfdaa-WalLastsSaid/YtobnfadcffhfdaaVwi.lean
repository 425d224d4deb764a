/- wal: a disk at rest, with a log of some records; what each call makes of it, and what a loss of power (pure): the theory of WalLasts. -/
import Derived.Test.YtobnfadcffhfdaaVwc
namespace Go.Proofs.Ytobnfadcffhfdaa
open Go.RowKit Go.Maps

/-- The sectors that a log of z has for records. -/
def bodyOf (d : DS) (z : Nat) : List (List UInt8) := (d.rd.take (z + 1)).drop 1
theorem body_len {d : DS} {z : Nat} (h : z + 1 ≤ d.rd.length) : (bodyOf d z).length = z := by
  unfold bodyOf
  rw [List.length_drop, List.length_take]
  omega
theorem body_at {d : DS} {z j : Nat} (hj : j < z) : (bodyOf d z)[j]? = d.rd[1 + j]? := by
  unfold bodyOf
  rw [List.getElem?_drop, List.getElem?_take, if_pos (by omega)]
/-- A half of a sector. -/
def halfOf (s : List UInt8) (k : Nat) : List UInt8 := (s.drop (64 * (k % 2))).take 64
theorem body_half {d : DS} {z k : Nat} (hk : k < 2 * z) (hl : z + 1 ≤ d.rd.length) : hv (bodyOf d z) k = halfOf (d.rd.getD (1 + k / 2) []) k := by
  unfold hv halfOf
  rw [body_at (by omega), List.getD_eq_getElem?_getD, List.getElem?_eq_getElem (by omega : 1 + k / 2 < d.rd.length)]
  rfl
theorem half_even {s : List UInt8} {k : Nat} (hk : k % 2 = 0) : halfOf s k = s.take 64 := by
  unfold halfOf
  rw [hk]
  rfl
theorem half_odd {s : List UInt8} {k : Nat} (hs : s.length = 128) (hk : k % 2 = 1) : halfOf s k = s.drop 64 := by
  unfold halfOf
  rw [hk, Nat.mul_one]
  exact List.take_of_length_le (by rw [List.length_drop, hs]; omega)
/-- The first half of a head. -/
def HeadIs (d : DS) (c s : Nat) : Prop := d.head.take 64 = (hdS c s).take 64 ∧ 1 ≤ s ∧ s ≤ c ∧ c ≤ maxC
/-- A disk at rest: the log's head, its records (each with its count), where they end; nothing behind them counts. -/
structure RI (d : DS) (z c s : Nat) (q : List (Nat × List Chg)) (e : Nat) : Prop where
  vs : ∀ j, d.vs j = []
  len : z + 1 ≤ d.rd.length
  all : ∀ x ∈ d.rd, x.length = 128
  hd : HeadIs d c s
  laid : LaidAt (bodyOf d z) c s 0 0 q e
  clean : Clean (bodyOf d z) e s q.length
  old : ∀ k, k < 2 * z → (hdOf (hv (bodyOf d z) k)).c ≤ c
/-- In this life nothing of the next number was tried. -/
def NW (d : DS) (z c e n : Nat) : Prop := ∀ k, 2 * e ≤ k → k < 2 * z → (hdOf (hv (bodyOf d z) k)).c = c → (hdOf (hv (bodyOf d z) k)).n < n
theorem RI.says {d : DS} {z c s : Nat} {q : List (Nat × List Chg)} {e : Nat} (h : RI d z c s q e) : (recs c s (bodyOf d z)).map (·.1) = q.map (·.2) ∧ usedOf (recs c s (bodyOf d z)) = e ∧ e ≤ z := by
  have hl := body_len h.len
  have h1 := recs_laid (f := (bodyOf d z).length + 1) h.laid (by rw [Nat.zero_add]; exact h.clean) (by omega) (Nat.zero_le _)
  rw [List.drop_zero] at h1
  unfold recs
  exact ⟨h1.1, by have := h1.2.1; omega, by have := h1.2.2; omega⟩
theorem RI.len_q {d : DS} {z c s : Nat} {q : List (Nat × List Chg)} {e : Nat} (h : RI d z c s q e) : (recs c s (bodyOf d z)).length = q.length := by
  have := congrArg List.length h.says.1
  simpa using this
set_option maxRecDepth 100000 in
/-- What is laid stays so at a greater count. -/
theorem LaidAt.mono {body : List (List UInt8)} {c c' s : Nat} (hc : c ≤ c') : ∀ {q : List (Nat × List Chg)} {a n e : Nat}, LaidAt body c s a n q e → LaidAt body c' s a n q e
  | [], _, _, _, h => h
  | _ :: _, _, _, _, ⟨h1, h2, h3, h4, h5, h6, h7, h8⟩ => ⟨h1, h2, h3, Nat.le_trans h4 hc, h5, h6, h7, h8.mono hc⟩
set_option maxRecDepth 100000 in
theorem LaidAt.le {body : List (List UInt8)} {c s : Nat} : ∀ {q : List (Nat × List Chg)} {a n e : Nat}, LaidAt body c s a n q e → a ≤ e
  | [], _, _, _, h => Nat.le_of_eq (Eq.symm h)
  | _ :: _, _, _, _, ⟨_, _, _, _, _, _, _, h8⟩ => Nat.le_trans (Nat.le_add_right _ _) h8.le
set_option maxRecDepth 100000 in
/-- What is laid is told by its halves. -/
theorem LaidAt.same {body body' : List (List UInt8)} {c s : Nat} (hl : body'.length = body.length) : ∀ {q : List (Nat × List Chg)} {a n e : Nat}, LaidAt body c s a n q e → (∀ k, 2 * a ≤ k → k < 2 * e → k < 2 * body.length → hv body' k = hv body k) → LaidAt body' c s a n q e
  | [], _, _, _, h, _ => h
  | _ :: _, a, _, e, ⟨h1, h2, h3, h4, h5, h6, h7, h8⟩, hs => by
    have hle := h8.le
    have hk := need_many (bytes_short h1 h2)
    exact ⟨h1, h2, h3, h4, h5, fun j hj => by rw [hs _ (by omega) (by omega) (by omega)]; exact h6 j hj, by rw [hl]; exact h7, h8.same hl fun k hk1 hk2 hk3 => hs k (by omega) hk2 hk3⟩
set_option maxRecDepth 100000 in
theorem LaidAt.snoc {body : List (List UInt8)} {c s : Nat} {r : Nat × List Chg} {q : List (Nat × List Chg)} : ∀ {a n e : Nat}, LaidAt body c s a n q e → LaidAt body c s e (n + q.length) [r] (e + needN ((bytesR r.2).length : Nat)) → LaidAt body c s a n (q ++ [r]) (e + needN ((bytesR r.2).length : Nat)) := by
  induction q with
  | nil =>
    intro a n e h hr
    have he : e = a := h
    subst he
    exact hr
  | cons x q ih =>
    intro a n e h hr
    obtain ⟨h1, h2, h3, h4, h5, h6, h7, h8⟩ := h
    refine ⟨h1, h2, h3, h4, h5, h6, h7, ih h8 ?_⟩
    have e1 : n + 1 + q.length = n + (x :: q).length := by rw [List.length_cons]; omega
    rw [e1]
    exact hr
set_option maxRecDepth 100000 in
/-- Another head: the sectors for records are the same. -/
theorem RI.head_set {d d' : DS} {z c s c' : Nat} {q : List (Nat × List Chg)} {e : Nat} (h : RI d z c s q e) (hv' : ∀ j, d'.vs j = []) (hl : d'.rd.length = d.rd.length) (hall : ∀ x ∈ d'.rd, x.length = 128) (hb : bodyOf d' z = bodyOf d z) (hd : HeadIs d' c' s) (hc : c ≤ c') : RI d' z c' s q e :=
  ⟨hv', by rw [hl]; exact h.len, hall, hd, by rw [hb]; exact h.laid.mono hc, by rw [hb]; exact h.clean, fun k hk => by rw [hb]; exact Nat.le_trans (h.old k hk) hc⟩
set_option maxRecDepth 100000 in
/-- A head that begins a log anew. -/
theorem RI.begin {d d' : DS} {z c s c' : Nat} {q : List (Nat × List Chg)} {e : Nat} (h : RI d z c s q e) (hv' : ∀ j, d'.vs j = []) (hl : d'.rd.length = d.rd.length) (hall : ∀ x ∈ d'.rd, x.length = 128) (hb : bodyOf d' z = bodyOf d z) (hd : HeadIs d' c' c') (hc : c < c') : RI d' z c' c' [] 0 :=
  ⟨hv', by rw [hl]; exact h.len, hall, hd, rfl, clean_new (by omega) (fun k hk => by rw [hb] at hk ⊢; rw [body_len h.len] at hk; exact Nat.lt_of_le_of_lt (h.old k hk) hc), fun k hk => by rw [hb]; exact Nat.le_of_lt (Nat.lt_of_le_of_lt (h.old k hk) hc)⟩
theorem RI.nw {d d' : DS} {z c s c' : Nat} {q : List (Nat × List Chg)} {e : Nat} (h : RI d z c s q e) (hb : bodyOf d' z = bodyOf d z) (hc : c < c') (e' n : Nat) : NW d' z c' e' n := fun k _ hk2 hk3 => by
  have := h.old k hk2
  rw [hb] at hk3
  omega
/-- The first sector laid: the others are the same. -/
theorem body_head {d d' : DS} {z : Nat} (hl : d'.rd.length = d.rd.length) (hs : ∀ j, 1 ≤ j → j < d.rd.length → d'.rd.getD j [] = d.rd.getD j []) (hz : z + 1 ≤ d.rd.length) : bodyOf d' z = bodyOf d z := by
  apply List.ext_getElem?
  intro j
  by_cases hj : j < z
  · rw [body_at hj, body_at hj]
    have := hs (1 + j) (by omega) (by omega)
    rw [List.getD_eq_getElem?_getD, List.getD_eq_getElem?_getD, List.getElem?_eq_getElem (by omega : 1 + j < d'.rd.length), List.getElem?_eq_getElem (by omega : 1 + j < d.rd.length)] at this
    rw [List.getElem?_eq_getElem (by omega : 1 + j < d'.rd.length), List.getElem?_eq_getElem (by omega : 1 + j < d.rd.length)]
    exact congrArg some this
  · rw [List.getElem?_eq_none (by rw [body_len (by omega)]; omega), List.getElem?_eq_none (by rw [body_len hz]; omega)]
end Go.Proofs.Ytobnfadcffhfdaa
