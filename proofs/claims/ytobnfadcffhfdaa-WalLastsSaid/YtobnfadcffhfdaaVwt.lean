/- wal: what torn rows can say (pure): the theory of WalLasts. -/
import Derived.Test.YtobnfadcffhfdaaVkp
namespace Go.Proofs.Ytobnfadcffhfdaa

theorem hv_drop (ss : List (List UInt8)) (a k : Nat) : hv (ss.drop a) k = hv ss (2 * a + k) := by
  unfold hv
  rw [List.getElem?_drop, show (2 * a + k) / 2 = a + k / 2 by omega, show (2 * a + k) % 2 = k % 2 by omega]
/-- A whole row of a tag stands, half by half, from a sector on. -/
def FullAt (body : List (List UInt8)) (a c n : Nat) : Prop := ∃ m, 1 ≤ m ∧ ∀ j, j < m → 2 * a + j < 2 * body.length ∧ hdOf (hv body (2 * a + j)) = ⟨c, n, j, m⟩
theorem join_full {body : List (List UInt8)} {a : Nat} {b : List UInt8} (h : joinOf (body.drop a) = some b) : FullAt body a (tagAt (body.drop a)).1 (tagAt (body.drop a)).2 := by
  unfold joinOf at h
  cases ht : togAll (body.drop a) with
  | none => rw [ht] at h; cases h
  | some l =>
    unfold togAll at ht
    split at ht
    · cases ht
    · split at ht
      · unfold togOf at ht
        simp only at ht
        split at ht
        · rename_i q
          obtain ⟨q1, q2, q3⟩ := q
          refine ⟨(hdOf (hv (body.drop a) 0)).m, q1, fun j hj => ?_⟩
          have hd := hdEq_iff.1 (List.all_eq_true.1 q3 j (List.mem_range.2 hj))
          rw [List.length_drop] at q2
          refine ⟨by omega, ?_⟩
          rw [← hv_drop]
          exact hd
        · cases ht
      · cases ht
/-- From a sector on nothing can be read as the n-th record of the counts from s on. -/
structure Clean (body : List (List UInt8)) (a s n : Nat) : Prop where
  s1 : 1 ≤ s
  num : ∀ k, 2 * a ≤ k → k < 2 * body.length → s ≤ (hdOf (hv body k)).c → (hdOf (hv body k)).n ≤ n
  full : ∀ c, s ≤ c → ¬ FullAt body a c n
theorem recs_clean {body : List (List UInt8)} {a s n : Nat} (h : Clean body a s n) (c f : Nat) : recsFrom c s f n (body.drop a) = [] := by
  cases f with
  | zero => rfl
  | succ f =>
    rw [recsFrom]
    rcases hj : joinOf (body.drop a) with _ | b
    · rfl
    · show (if _ then _ else _) = _
      split
      · rename_i q
        have hf := join_full hj
        rw [q.1] at hf
        exact absurd hf (h.full _ q.2.1)
      · rfl
/-- The halves of a row. -/
def rowH (c n : Nat) (b : List UInt8) (j : Nat) : List UInt8 := tagB ⟨c, n, j, many b.length⟩ (((padB b).drop (48 * j)).take 48)
theorem rowH_hd {c n : Nat} {b : List UInt8} (hb : b.length ≤ 32768) (hm : mayT c (n : Int) = true) {j : Nat} (hj : j < many b.length) : hdOf (rowH c n b j) = ⟨c, n, j, many b.length⟩ := by
  have hm7 : many b.length ≤ 683 := by unfold many; omega
  have hcn : c ≤ 4611686018427387904 ∧ n ≤ 2147483647 := by unfold mayT at hm; simp at hm; omega
  exact hd_tagB ⟨by show c < _; omega, by show n < _; omega, by show j < _; omega, by show many b.length < _; omega⟩ _
theorem rowH_at {c n : Nat} {b : List UInt8} (more : List (List UInt8)) {k : Nat} (hk : k < many b.length) : hv (secs (rowB c n b) ((many b.length + 1) / 2) ++ more) k = rowH c n b k := by
  have hp := padB_len b
  have hf : ∀ i, i < many b.length → ((fun i => ((padB b).drop (48 * i)).take 48) i).length = 48 := fun i hi => by
    simp only [List.length_take, List.length_drop]; omega
  rw [hv_secs (by omega), rowB_tags]
  exact tags_at hf hk _
/-- A row is read by its halves alone, whatever stands in the last sector's second one. -/
theorem join_halves {c n : Nat} {b : List UInt8} {ss : List (List UInt8)} (hb : b.length ≤ 32768) (hm : mayT c (n : Int) = true) (hat : ∀ k, k < many b.length → hv ss k = rowH c n b k) (hl : many b.length ≤ 2 * ss.length) : tagAt ss = (c, n) ∧ joinOf ss = some b := by
  have hp := padB_len b
  have hmp := many_pos b.length
  have hhd : ∀ k, k < many b.length → hdOf (hv ss k) = ⟨c, n, k, many b.length⟩ := fun k hk => by rw [hat k hk]; exact rowH_hd hb hm hk
  have h0 := hhd 0 hmp
  have htag : tagAt ss = (c, n) := by unfold tagAt; rw [h0]
  refine ⟨htag, ?_⟩
  have hne : ss ≠ [] := by
    intro e
    rw [e] at hl
    simp at hl
    omega
  have htog : togAll ss = some (padB b) := by
    unfold togAll
    rw [if_neg hne, htag]
    simp only [hm, if_true]
    unfold togOf
    rw [h0]
    simp only
    rw [if_pos]
    · congr 1
      rw [← pieces_cat hp]
      have : ∀ K, K ≤ many b.length → (List.range K).flatMap (fun k => (hv ss k).drop 16) = (List.range K).flatMap (fun i => ((padB b).drop (48 * i)).take 48) := fun K => by
        induction K with
        | zero => intro _; rfl
        | succ K ih =>
          intro hK
          rw [List.range_succ, List.flatMap_append, List.flatMap_append, ih (by omega)]
          simp only [List.flatMap_cons, List.flatMap_nil, List.append_nil]
          rw [hat K (by omega)]
          unfold rowH
          rw [drop_tagB]
      exact this _ (Nat.le_refl _)
    · exact ⟨hmp, hl, List.all_eq_true.2 fun k hk => hdEq_iff.2 (hhd k (List.mem_range.1 hk))⟩
  unfold joinOf
  rw [htog]
  exact con_pad hb
/-- Records that stand one behind the other, each of its count. -/
def LaidAt (body : List (List UInt8)) (c s : Nat) : Nat → Nat → List (Nat × List Chg) → Nat → Prop
  | a, _, [], e => e = a
  | a, n, q :: rs, e => mayR q.2 = true ∧ (∀ x ∈ q.2, x.p.length = 512) ∧ s ≤ q.1 ∧ q.1 ≤ c ∧ mayT q.1 (n : Int) = true ∧ (∀ j, j < many (bytesR q.2).length → hv body (2 * a + j) = rowH q.1 n (bytesR q.2) j) ∧ a + needN ((bytesR q.2).length : Nat) ≤ body.length ∧ LaidAt body c s (a + needN ((bytesR q.2).length : Nat)) (n + 1) rs e
theorem need_many {b : List UInt8} (hb : b.length ≤ 32768) : needN (b.length : Nat) = (many b.length + 1) / 2 := by
  unfold needN
  rw [if_neg (by omega), Int.toNat_natCast]
theorem bytes_short {r : List Chg} (hm : mayR r = true) (h5 : ∀ x ∈ r, x.p.length = 512) : (bytesR r).length ≤ 32768 := by
  rw [bytesR_len h5]
  have := mayR_len hm
  omega
theorem recs_laid {body : List (List UInt8)} {c s : Nat} : ∀ {rs : List (Nat × List Chg)} {a n e f : Nat}, LaidAt body c s a n rs e → Clean body e s (n + rs.length) → body.length < f + a → a ≤ body.length →
    (recsFrom c s f n (body.drop a)).map (·.1) = rs.map (·.2) ∧ usedOf (recsFrom c s f n (body.drop a)) + a = e ∧ e ≤ body.length
  | [], a, n, e, f, h, hc, hf, ha => by
    obtain rfl : e = a := h
    rw [List.length_nil, Nat.add_zero] at hc
    rw [recs_clean hc]
    exact ⟨rfl, by simp [usedOf], ha⟩
  | q :: rs, a, n, e, f, h, hc, hf, ha => by
    obtain ⟨h1, h2, h3, h4, h5, h6, h7, h8⟩ := h
    obtain ⟨f, rfl⟩ : ∃ f', f = f' + 1 := ⟨f - 1, by omega⟩
    have hb := bytes_short h1 h2
    have hk := need_many hb
    have hmp := many_pos (bytesR q.2).length
    have hj := join_halves (ss := body.drop a) hb h5 (fun k hk => by rw [hv_drop]; exact h6 k hk) (by rw [List.length_drop]; omega)
    have ih := recs_laid (f := f) h8 (by rw [List.length_cons] at hc; rwa [show n + 1 + rs.length = n + (rs.length + 1) by omega]) (by omega) h7
    have hrec : recsFrom c s (f + 1) n (body.drop a) = (q.2, needN ((bytesR q.2).length : Nat)) :: recsFrom c s f (n + 1) (body.drop (a + needN ((bytesR q.2).length : Nat))) := by
      rw [recsFrom, hj.2]
      show (if (tagAt (body.drop a)).2 = n ∧ s ≤ (tagAt (body.drop a)).1 ∧ (tagAt (body.drop a)).1 ≤ c then _ else _) = _
      rw [hj.1, if_pos ⟨rfl, h3, h4⟩, recOf_bytesR h1 h2]
      show (q.2, needN ((bytesR q.2).length : Nat)) :: recsFrom c s f (n + 1) ((body.drop a).drop (needN ((bytesR q.2).length : Nat))) = _
      rw [List.drop_drop]
    rw [hrec]
    refine ⟨by rw [List.map_cons, List.map_cons, ih.1], ?_, ih.2.2⟩
    have e1 : usedOf ((q.2, needN ((bytesR q.2).length : Nat)) :: recsFrom c s f (n + 1) (body.drop (a + needN ((bytesR q.2).length : Nat)))) = needN ((bytesR q.2).length : Nat) + usedOf (recsFrom c s f (n + 1) (body.drop (a + needN ((bytesR q.2).length : Nat)))) := by simp [usedOf]
    rw [e1]
    have := ih.2.1
    omega
set_option maxRecDepth 100000 in
/-- What a torn commit leaves: each half as it was, or the row's; not all of the row's halves. -/
theorem clean_torn {body body' : List (List UInt8)} {a s n c : Nat} {b : List UInt8} (h : Clean body a s n) (hb : b.length ≤ 32768) (hm : mayT c (n : Int) = true) (hl : body'.length = body.length)
    (hold : ∀ k, 2 * a ≤ k → k < 2 * body.length → (hdOf (hv body k)).c = c → (hdOf (hv body k)).n < n)
    (hmix : ∀ k, k < 2 * body.length → hv body' k = hv body k ∨ (∃ j, k = 2 * a + j ∧ j < many b.length ∧ hv body' k = rowH c n b j) ∨ hv body' k = nought 64)
    (hnot : ∃ j, j < many b.length ∧ hv body' (2 * a + j) ≠ rowH c n b j) : Clean body' a s n := by
  have hz : hdOf (nought 64) = ⟨0, 0, 0, 0⟩ := hd_nought
  refine ⟨h.s1, fun k hk1 hk2 hs => ?_, fun c' hs' hf => ?_⟩
  · rw [hl] at hk2
    rcases hmix k hk2 with q | ⟨j, q1, q2, q3⟩ | q
    · rw [q] at hs ⊢
      exact h.num k hk1 hk2 hs
    · rw [q3, rowH_hd hb hm q2]
      exact Nat.le_refl _
    · rw [q, hz] at hs
      have := h.s1
      simp at hs
      omega
  · obtain ⟨m, hm1, hall⟩ := hf
    have hs1 := h.s1
    by_cases hc : c' = c
    · subst hc
      obtain ⟨j0, hj0, hne⟩ := hnot
      have key : ∀ j, j < m → j < many b.length ∧ hv body' (2 * a + j) = rowH c' n b j ∧ m = many b.length := fun j hj => by
        obtain ⟨k1, k2⟩ := hall j hj
        rw [hl] at k1
        rcases hmix _ k1 with q | ⟨i, q1, q2, q3⟩ | q
        · have h9 := hold _ (by omega) k1
          rw [← q, k2] at h9
          have h8 := h9 rfl
          exact absurd h8 (Nat.lt_irrefl _)
        · obtain rfl : i = j := by omega
          have h9 := k2
          rw [q3, rowH_hd hb hm q2] at h9
          injection h9 with _ _ _ h9
          exact ⟨q2, q3, h9.symm⟩
        · have k3 := k2
          rw [q, hz] at k3
          have k4 : 0 = c' := congrArg Hd.c k3
          omega
      have hmm := (key 0 (by omega)).2.2
      exact hne (key j0 (by omega)).2.1
    · refine h.full c' hs' ⟨m, hm1, fun j hj => ?_⟩
      obtain ⟨k1, k2⟩ := hall j hj
      rw [hl] at k1
      refine ⟨k1, ?_⟩
      rcases hmix _ k1 with q | ⟨i, q1, q2, q3⟩ | q
      · rw [← q]
        exact k2
      · rw [q3, rowH_hd hb hm q2] at k2
        injection k2 with k2
        exact absurd k2.symm hc
      · rw [q, hz] at k2
        injection k2 with k2
        omega
/-- What a whole commit leaves. -/
theorem clean_next {body body' : List (List UInt8)} {a a' s n : Nat} (h : Clean body a s n) (ha : a ≤ a') (hl : body'.length = body.length) (hsame : ∀ k, 2 * a' ≤ k → k < 2 * body.length → hv body' k = hv body k) : Clean body' a' s (n + 1) := by
  have hnum : ∀ k, 2 * a' ≤ k → k < 2 * body'.length → s ≤ (hdOf (hv body' k)).c → (hdOf (hv body' k)).n ≤ n := fun k hk1 hk2 hs => by
    rw [hl] at hk2
    rw [hsame k hk1 hk2] at hs ⊢
    exact h.num k (by omega) hk2 hs
  refine ⟨h.s1, fun k hk1 hk2 hs => Nat.le_succ_of_le (hnum k hk1 hk2 hs), fun c hs hf => ?_⟩
  obtain ⟨m, hm1, hall⟩ := hf
  obtain ⟨k1, k2⟩ := hall 0 (by omega)
  rw [Nat.add_zero] at k1 k2
  have h9 := hnum (2 * a') (Nat.le_refl _) k1 (by rw [k2]; exact hs)
  rw [k2] at h9
  have h8 : n + 1 ≤ n := h9
  omega
/-- Behind a truncation nothing counts. -/
theorem clean_new {body : List (List UInt8)} {s : Nat} (h1 : 1 ≤ s) (hold : ∀ k, k < 2 * body.length → (hdOf (hv body k)).c < s) : Clean body 0 s 0 := by
  refine ⟨h1, fun k _ hk hs => ?_, fun c hs hf => ?_⟩
  · have := hold k hk
    omega
  · obtain ⟨m, hm1, hall⟩ := hf
    obtain ⟨k1, k2⟩ := hall 0 (by omega)
    have := hold _ k1
    rw [k2] at this
    simp at this
    omega
end Go.Proofs.Ytobnfadcffhfdaa
