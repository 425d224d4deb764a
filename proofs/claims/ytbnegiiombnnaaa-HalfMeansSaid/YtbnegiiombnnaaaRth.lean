/- The row that sectors begin with, by definition: it is the one that is read off them. -/
import Derived.Test.YtbnegiiombnnaaaRrow
namespace Go.Proofs.Ytbnegiiombnnaaa
open Go.RowKit

theorem be_add (a n : Nat) (s : Nat) : be (a * 256 ^ s + n) s = be n s := by
  unfold be
  apply List.map_congr_left
  intro i hi
  have hi := List.mem_range.1 hi
  have e : 256 ^ s = 256 ^ (s - 1 - i) * (256 * 256 ^ i) := by
    rw [← Nat.pow_succ', ← Nat.pow_add]
    congr 1
    omega
  have hp : 0 < 256 ^ (s - 1 - i) := Nat.pow_pos (by omega)
  have e2 : (a * 256 ^ s + n) / 256 ^ (s - 1 - i) = 256 * (a * 256 ^ i) + n / 256 ^ (s - 1 - i) := by
    rw [e]
    have : a * (256 ^ (s - 1 - i) * (256 * 256 ^ i)) + n = n + 256 ^ (s - 1 - i) * (256 * (a * 256 ^ i)) := by
      rw [Nat.add_comm]
      congr 1
      rw [Nat.mul_left_comm]
      congr 1
      rw [Nat.mul_left_comm]
    rw [this, Nat.add_mul_div_left _ _ hp, Nat.add_comm]
  rw [e2]
  congr 1
  omega
theorem be_numOf : ∀ l : List UInt8, be (numOf l) l.length = l
  | [] => rfl
  | c :: l => by
    have e : c :: l = [c] ++ l := rfl
    have h1 : numOf (c :: l) = c.toNat * 256 ^ l.length + numOf l := by
      rw [e, numOf_app]
      simp [numOf]
    rw [List.length_cons, be_succ, h1, be_add, be_numOf l]
    congr 1
    have hl := numOf_lt l
    have hp : 0 < 256 ^ l.length := Nat.pow_pos (by omega)
    have e3 : (c.toNat * 256 ^ l.length + numOf l) / 256 ^ l.length = c.toNat := by
      rw [Nat.mul_comm, Nat.mul_add_div hp, Nat.div_eq_of_lt hl, Nat.add_zero]
    rw [e3]
    have hc := UInt8.toNat_lt c
    rw [Nat.mod_eq_of_lt (by omega), UInt8.ofNat_toNat]
theorem tagB_hd {h : List UInt8} (hl : h.length = 64) : tagB (hdOf h) (h.drop 16) = h := by
  have e0 : be (numOf (h.take 8)) 8 = h.take 8 := by
    have := be_numOf (h.take 8)
    rwa [List.length_take, hl] at this
  have e1 : be (numOf ((h.drop 8).take 4)) 4 = (h.drop 8).take 4 := by
    have := be_numOf ((h.drop 8).take 4)
    rwa [List.length_take, List.length_drop, hl] at this
  have e2 : be (numOf ((h.drop 12).take 2)) 2 = (h.drop 12).take 2 := by
    have := be_numOf ((h.drop 12).take 2)
    rwa [List.length_take, List.length_drop, hl] at this
  have e3 : be (numOf ((h.drop 14).take 2)) 2 = (h.drop 14).take 2 := by
    have := be_numOf ((h.drop 14).take 2)
    rwa [List.length_take, List.length_drop, hl] at this
  unfold tagB hdOf
  rw [e0, e1, e2, e3]
  have s0 : (h.drop 14).take 2 ++ h.drop 16 = h.drop 14 := by
    have := List.take_append_drop 2 (h.drop 14)
    rwa [List.drop_drop] at this
  have s1 : (h.drop 12).take 2 ++ h.drop 14 = h.drop 12 := by
    have := List.take_append_drop 2 (h.drop 12)
    rwa [List.drop_drop] at this
  have s2 : (h.drop 8).take 4 ++ h.drop 12 = h.drop 8 := by
    have := List.take_append_drop 4 (h.drop 8)
    rwa [List.drop_drop] at this
  rw [s0, s1, s2]
  exact List.take_append_drop 8 h
theorem tagB_inj {x : Hd} {p q : List UInt8} (h : tagB x p = tagB x q) : p = q := by
  have := congrArg (fun l => l.drop 16) h
  simpa [drop_tagB] using this
theorem numOf2_lt {l : List UInt8} (h : l.length ≤ 2) : numOf l < 65536 := by
  have h1 := numOf_lt l
  exact Nat.lt_of_lt_of_le h1 (Nat.pow_le_pow_right (by omega) h)

/-- The row that sectors begin with, by definition: the bytes of the one whose halves stand there. -/
def pcsOf (ss : List (List UInt8)) (m : Nat) : List UInt8 := (List.range m).flatMap fun k => (hv ss k).drop 16
def refJ (ss : List (List UInt8)) : Option (List UInt8) :=
  if ss = [] then none else
  if mayT (hdOf (hv ss 0)).c ((hdOf (hv ss 0)).n : Int) = true ∧ 1 ≤ (hdOf (hv ss 0)).m ∧ (hdOf (hv ss 0)).m ≤ 2 * ss.length then
    if numOf (((hv ss 0).drop 16).take 4) ≤ 32768 ∧ many (numOf (((hv ss 0).drop 16).take 4)) = (hdOf (hv ss 0)).m then
      if (List.range (hdOf (hv ss 0)).m).all (fun i => decide (halfL (hdOf (hv ss 0)).c (hdOf (hv ss 0)).n (hdOf (hv ss 0)).m (((pcsOf ss (hdOf (hv ss 0)).m).drop 4).take (numOf (((hv ss 0).drop 16).take 4))) i = hv ss i)) = true then
        some (((pcsOf ss (hdOf (hv ss 0)).m).drop 4).take (numOf (((hv ss 0).drop 16).take 4)))
      else none
    else none
  else none
theorem pcsOf_succ (ss : List (List UInt8)) (m : Nat) : pcsOf ss (m + 1) = pcsOf ss m ++ (hv ss m).drop 16 := by
  simp [pcsOf, List.range_succ]
theorem pcsOf_len {ss : List (List UInt8)} (hs : ∀ s ∈ ss, s.length = 128) (m : Nat) : (pcsOf ss m).length = m * 48 := by
  induction m with
  | zero => rfl
  | succ m ih =>
    rw [pcsOf_succ, List.length_append, ih, List.length_drop, hv_len hs]
    omega
theorem pcsOf_at {ss : List (List UInt8)} (hs : ∀ s ∈ ss, s.length = 128) {m i : Nat} (hi : i < m) (z : List UInt8) : ((pcsOf ss m ++ z).drop (48 * i)).take 48 = (hv ss i).drop 16 := by
  induction m generalizing z with
  | zero => omega
  | succ m ih =>
    rw [pcsOf_succ, List.append_assoc]
    by_cases e : i = m
    · subst e
      have h1 : (pcsOf ss i ++ ((hv ss i).drop 16 ++ z)).drop (48 * i) = (hv ss i).drop 16 ++ z := List.drop_left' (by rw [pcsOf_len hs]; omega)
      rw [h1]
      exact List.take_left' (by rw [List.length_drop, hv_len hs])
    · exact ih (by omega) _
theorem all_zero {l : List UInt8} {k : Nat} (hl : l.length = k) : l.all (· == 0) = true ↔ nought k = l := by
  subst hl
  unfold nought
  rw [List.all_eq_true]
  constructor
  · intro h
    exact (List.eq_replicate_iff.2 ⟨rfl, fun b hb => by simpa using h b hb⟩).symm
  · intro h b hb
    have := (List.eq_replicate_iff.1 h.symm).2 b hb
    simpa using this
theorem refJ_eq {ss : List (List UInt8)} (hs : ∀ s ∈ ss, s.length = 128) : refJ ss = joinOf ss := by
  unfold refJ
  split
  · rename_i h
    subst h
    rfl
  rename_i hne
  have hlen0 : 0 < ss.length := List.length_pos_iff.2 hne
  obtain ⟨x, hx⟩ : ∃ x, x = hdOf (hv ss 0) := ⟨_, rfl⟩
  have hjn : ∀ o, togOf ss = o → mayT x.c (x.n : Int) = true → joinOf ss = o.bind conOf := fun o ho hm => by
    unfold joinOf togAll tagAt
    rw [if_neg hne, ← hx]
    simp only [hm, if_true]
    rw [ho]
  rw [← hx]
  by_cases hm : mayT x.c (x.n : Int) = true
  rotate_left
  · rw [if_neg (fun q => hm q.1)]
    unfold joinOf togAll tagAt
    rw [if_neg hne, ← hx]
    simp only [hm]
    rfl
  by_cases hmm : 1 ≤ x.m ∧ x.m ≤ 2 * ss.length
  rotate_left
  · rw [if_neg (fun q => hmm q.2)]
    rw [hjn none (by unfold togOf; rw [← hx]; simp only; rw [if_neg (fun q => hmm ⟨q.1, q.2.1⟩)]) hm]
    rfl
  rw [if_pos ⟨hm, hmm⟩]
  have hfit : x.c < 18446744073709551616 ∧ x.n < 4294967296 ∧ x.m < 65536 := by
    refine ⟨?_, ?_, ?_⟩
    · unfold mayT at hm; simp at hm; omega
    · unfold mayT at hm; simp at hm; omega
    · rw [hx]
      exact numOf2_lt (by rw [List.length_take]; omega)
  obtain ⟨k, hk⟩ : ∃ k, k = numOf (((hv ss 0).drop 16).take 4) := ⟨_, rfl⟩
  rw [← hk]
  obtain ⟨l, hl⟩ : ∃ l, l = pcsOf ss x.m := ⟨_, rfl⟩
  rw [← hl]
  have hll : l.length = x.m * 48 := by rw [hl, pcsOf_len hs]
  have hpc : ∀ i, i < x.m → (l.drop (48 * i)).take 48 = (hv ss i).drop 16 := fun i hi => by
    have := pcsOf_at hs hi []
    rw [List.append_nil, ← hl] at this
    exact this
  have hk4 : numOf (l.take 4) = k := by
    rw [hk]
    have h0 := hpc 0 (by omega)
    rw [Nat.mul_zero, List.drop_zero] at h0
    rw [← h0, List.take_take]
    rfl
  by_cases hh : (List.range x.m).all (fun k => hdEq (hdOf (hv ss k)) ⟨x.c, x.n, k, x.m⟩) = true
  · rw [hjn (some l) (by unfold togOf; rw [← hx]; simp only; rw [if_pos ⟨hmm.1, hmm.2, hh⟩, hl]; rfl) hm]
    show _ = conOf l
    unfold conOf
    simp only [hk4]
    by_cases hkk : k ≤ 32768 ∧ many k = x.m
    rotate_left
    · rw [if_neg hkk, if_pos]
      by_cases h1 : 32768 < k
      · exact .inr (.inl h1)
      · refine .inr (.inr fun q => hkk ⟨by omega, ?_⟩)
        rw [hll] at q
        omega
    have hcond : ¬ (l = [] ∨ 32768 < k ∨ many k * 48 ≠ l.length) := by
      rintro (q | q | q)
      · rw [q] at hll; simp at hll; omega
      · omega
      · rw [hll, hkk.2] at q; exact q rfl
    rw [if_pos hkk, if_neg hcond]
    have hmk : k + 4 ≤ x.m * 48 := by have := hkk.2; unfold many at this; omega
    obtain ⟨b, hb⟩ : ∃ b, b = (l.drop 4).take k := ⟨_, rfl⟩
    rw [← hb]
    have hbl : b.length = k := by rw [hb, List.length_take, List.length_drop]; omega
    have hcut : l = l.take 4 ++ (b ++ l.drop (4 + k)) := by
      have h1 := List.take_append_drop 4 l
      have h2 := List.take_append_drop k (l.drop 4)
      rw [List.drop_drop] at h2
      rw [hb, h2, h1]
    have hb4 : be b.length 4 = l.take 4 := by
      have := be_numOf (l.take 4)
      rw [hk4, List.length_take] at this
      rw [hbl]
      have e : min 4 l.length = 4 := by omega
      rwa [e] at this
    have hiff : ((List.range x.m).all (fun i => decide (halfL x.c x.n x.m b i = hv ss i)) = true) ↔ (l.drop (4 + k)).all (· == 0) = true := by
      have hz : (l.drop (4 + k)).length = many b.length * 48 - 4 - b.length := by rw [List.length_drop, hbl, hkk.2]; omega
      rw [all_zero hz]
      have hpad : padB b = l ↔ nought (many b.length * 48 - 4 - b.length) = l.drop (4 + k) := by
        unfold padB
        rw [hb4]
        constructor
        · intro h
          rw [hcut] at h
          have h1 := List.append_cancel_left (show l.take 4 ++ (b ++ nought (many b.length * 48 - 4 - b.length)) = l.take 4 ++ (b ++ l.drop (4 + k)) from by
            have e : l.take 4 ++ (b ++ l.drop (4 + k)) = l := hcut.symm
            have h' := h
            rw [e] at h'
            rw [e]
            exact h')
          exact List.append_cancel_left h1
        · intro h
          rw [h]
          exact hcut.symm
      rw [← hpad]
      have hpl := padB_len b
      rw [hbl, hkk.2] at hpl
      rw [List.all_eq_true]
      have hhd : ∀ i, i < x.m → hv ss i = tagB ⟨x.c, x.n, i, x.m⟩ ((l.drop (48 * i)).take 48) := fun i hi => by
        have h1 := tagB_hd (hv_len hs i)
        have h2 := hdEq_iff.1 (List.all_eq_true.1 hh i (List.mem_range.2 hi))
        rw [h2] at h1
        rw [hpc i hi]
        exact h1.symm
      constructor
      · intro h
        rw [← pieces_cat hpl, ← pieces_cat hll]
        have : ∀ K, K ≤ x.m → (List.range K).flatMap (fun i => ((padB b).drop (48 * i)).take 48) = (List.range K).flatMap (fun i => (l.drop (48 * i)).take 48) := fun K => by
          induction K with
          | zero => intro _; rfl
          | succ K ih =>
            intro hK
            rw [List.range_succ, List.flatMap_append, List.flatMap_append, ih (by omega)]
            have h3 := of_decide_eq_true (h K (List.mem_range.2 (by omega)))
            rw [hhd K (by omega)] at h3
            have h4 := tagB_inj (p := ((padB b).drop (48 * K)).take 48) h3
            simp only [List.flatMap_cons, List.flatMap_nil, List.append_nil]
            rw [h4]
        exact this _ (Nat.le_refl _)
      · intro h i hi
        have hi := List.mem_range.1 hi
        apply decide_eq_true
        rw [hhd i hi]
        unfold halfL
        rw [h]
    by_cases hz : (l.drop (4 + k)).all (· == 0) = true
    · rw [if_pos (hiff.2 hz), if_pos hz]
    · rw [if_neg (fun q => hz (hiff.1 q)), if_neg hz]
  · rw [hjn none (by unfold togOf; rw [← hx]; simp only; rw [if_neg (fun q => hh q.2.2)]) hm]
    show _ = none
    split
    · rw [if_neg]
      intro q
      apply hh
      rw [List.all_eq_true] at q ⊢
      intro i hi
      have h1 := of_decide_eq_true (q i hi)
      rw [← h1]
      have hi := List.mem_range.1 hi
      exact hdEq_iff.2 (hd_tagB (x := ⟨x.c, x.n, i, x.m⟩) ⟨hfit.1, hfit.2.1, by show i < 65536; omega, hfit.2.2⟩ _)
    · rfl
end Go.Proofs.Ytbnegiiombnnaaa
