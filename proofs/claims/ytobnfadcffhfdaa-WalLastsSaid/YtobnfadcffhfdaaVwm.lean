/- wal: what a commit makes of a disk at rest, whole and torn (pure): the theory of WalLasts. -/
import Derived.Test.YtobnfadcffhfdaaVwl
namespace Go.Proofs.Ytobnfadcffhfdaa
open Go.RowKit Go.Maps

theorem rowS_all {c n : Nat} {r : List Chg} (hm : mayR r = true) (h5 : ∀ x ∈ r, x.p.length = 512) : ∀ x ∈ rowS c n r, x.length = 128 := fun x hx => by
  have hb := bytes_short hm h5
  unfold rowS secs at hx
  obtain ⟨i, hi, rfl⟩ := List.mem_map.1 hx
  have hi2 := List.mem_range.1 hi
  rw [need_many hb] at hi2
  have hl := rowB_len c n (bytesR r)
  have h9 : (i + 1) * 128 ≤ (many (bytesR r).length + 1) / 2 * 128 := Nat.mul_le_mul_right _ hi2
  rw [List.length_take, List.length_drop, hl]
  omega
theorem row_half {c n : Nat} {r : List Chg} (hm : mayR r = true) (h5 : ∀ x ∈ r, x.p.length = 512) {j : Nat} (hj : j < many (bytesR r).length) : hv (rowS c n r) j = rowH c n (bytesR r) j := by
  have h := rowH_at (c := c) (n := n) (b := bytesR r) [] hj
  rw [List.append_nil] at h
  unfold rowS
  rw [need_many (bytes_short hm h5)]
  exact h
theorem row_pad {c n : Nat} {r : List Chg} (hm : mayR r = true) (h5 : ∀ x ∈ r, x.p.length = 512) {j : Nat} (hj : many (bytesR r).length ≤ j) (hj2 : j < 2 * needN ((bytesR r).length : Nat)) : hv (rowS c n r) j = nought 64 := by
  have hb := bytes_short hm h5
  rw [need_many hb] at hj2
  obtain ⟨M, hM⟩ : ∃ M, M = many (bytesR r).length := ⟨_, rfl⟩
  rw [← hM] at hj hj2
  have hjM : j = M := by omega
  have hp := padB_len (bytesR r)
  have hf : ∀ i, i < many (bytesR r).length → ((fun i => ((padB (bytesR r)).drop (48 * i)).take 48) i).length = 48 := fun i hi => by
    simp only [List.length_take, List.length_drop]; omega
  have h := hv_secs (l := rowB c n (bytesR r)) (N := (M + 1) / 2) (k := j) (by omega) []
  rw [List.append_nil] at h
  unfold rowS
  rw [need_many hb, ← hM, h, rowB_tags, ← hM]
  have hl : (tags c n M (fun i => ((padB (bytesR r)).drop (48 * i)).take 48) M).length = M * 64 := by
    rw [hM]
    exact tags_len _ hf
  rw [show 64 * j = M * 64 by omega, List.drop_left' hl]
  unfold nought
  rw [List.take_replicate]
  congr 1
  omega
/-- Half by half: as it was, or the row's. -/
def MixAt (body body' row : List (List UInt8)) (a : Nat) : Prop := ∀ k, k < 2 * body.length → hv body' k = hv body k ∨ (2 * a ≤ k ∧ k < 2 * (a + row.length) ∧ hv body' k = hv row (k - 2 * a))
theorem hv_row {row : List (List UInt8)} {a k : Nat} {x : List UInt8} (hk : 2 * a ≤ k) (hx : row[k / 2 - a]? = some x) : hv row (k - 2 * a) = halfOf x k := by
  unfold hv halfOf
  rw [show (k - 2 * a) / 2 = k / 2 - a by omega, show (k - 2 * a) % 2 = k % 2 by omega, hx]
  rfl
section
variable {d : DS} {z c s e : Nat} {q : List (Nat × List Chg)} {r : List Chg}
/-- What follows from a mix: nothing of the row counts, or all of it. -/
theorem RI.mixed {d' : DS} (h : RI d z c s q e) (nw : NW d z c e q.length) (hm : mayR r = true) (h5 : ∀ x ∈ r, x.p.length = 512) (ht : mayT c (q.length : Int) = true) (room : e + needN ((bytesR r).length : Nat) ≤ z)
    (hv' : ∀ j, d'.vs j = []) (hl : d'.rd.length = d.rd.length) (hall : ∀ x ∈ d'.rd, x.length = 128) (hhd : d'.rd.getD 0 [] = d.rd.getD 0 []) (hmix : MixAt (bodyOf d z) (bodyOf d' z) (rowS c q.length r) e) :
    RI d' z c s q e ∨ (RI d' z c s (q ++ [(c, r)]) (e + needN ((bytesR r).length : Nat)) ∧ NW d' z c (e + needN ((bytesR r).length : Nat)) (q.length + 1)) := by
  have hb := bytes_short hm h5
  have hk := need_many hb
  have hbl := body_len h.len
  have hbl' : (bodyOf d' z).length = z := body_len (by rw [hl]; exact h.len)
  have hrl := rowS_len c q.length r
  have hs1 := h.hd.2.1
  have hsc := h.hd.2.2.1
  have hhd2 : HeadIs d' c s := by
    unfold HeadIs DS.head
    rw [hhd]
    exact h.hd
  have hmix2 : ∀ k, k < 2 * (bodyOf d z).length → hv (bodyOf d' z) k = hv (bodyOf d z) k ∨ (∃ j, k = 2 * e + j ∧ j < many (bytesR r).length ∧ hv (bodyOf d' z) k = rowH c q.length (bytesR r) j) ∨ hv (bodyOf d' z) k = nought 64 := fun k hk2 => by
    rcases hmix k hk2 with p | ⟨p1, p2, p3⟩
    · exact .inl p
    · right
      by_cases hj : k - 2 * e < many (bytesR r).length
      · exact .inl ⟨k - 2 * e, by omega, hj, by rw [p3]; exact row_half hm h5 hj⟩
      · right
        rw [p3]
        exact row_pad hm h5 (by omega) (by rw [hrl] at p2; omega)
  have hold : ∀ k, k < 2 * z → (hdOf (hv (bodyOf d' z) k)).c ≤ c := fun k hk2 => by
    rcases hmix2 k (by rw [hbl]; exact hk2) with p | ⟨j, _, p2, p3⟩ | p
    · rw [p]
      exact h.old k hk2
    · rw [p3, rowH_hd hb ht p2]
      exact Nat.le_refl _
    · rw [p, hd_nought]
      exact Nat.zero_le _
  have hout : ∀ k, (k < 2 * e ∨ 2 * (e + needN ((bytesR r).length : Nat)) ≤ k) → k < 2 * z → hv (bodyOf d' z) k = hv (bodyOf d z) k := fun k hk1 hk2 => by
    rcases hmix k (by rw [hbl]; exact hk2) with p | ⟨p1, p2, _⟩
    · exact p
    · rw [hrl] at p2
      omega
  by_cases hnew : ∀ j, j < many (bytesR r).length → hv (bodyOf d' z) (2 * e + j) = rowH c q.length (bytesR r) j
  · right
    refine ⟨⟨hv', by rw [hl]; exact h.len, hall, hhd2, ?_, ?_, hold⟩, fun k hk1 hk2 hk3 => ?_⟩
    · have h1 := h.laid.same (body' := bodyOf d' z) (hbl'.trans hbl.symm) (fun k hk1 hk2 hk3 => hout k (.inl hk2) (by rw [hbl] at hk3; exact hk3))
      refine h1.snoc ⟨hm, h5, hsc, Nat.le_refl _, by rw [Nat.zero_add]; exact ht, by rw [Nat.zero_add]; exact hnew, by rw [hbl']; exact room, rfl⟩
    · rw [List.length_append]
      exact clean_next h.clean (Nat.le_add_right _ _) (hbl'.trans hbl.symm) (fun k hk1 hk2 => hout k (.inr hk1) (by rw [hbl] at hk2; exact hk2))
    · rw [hout k (.inr hk1) hk2] at hk3 ⊢
      exact Nat.lt_succ_of_lt (nw k (by omega) hk2 hk3)
  · left
    refine ⟨hv', by rw [hl]; exact h.len, hall, hhd2, ?_, ?_, hold⟩
    · exact h.laid.same (body' := bodyOf d' z) (hbl'.trans hbl.symm) (fun k hk1 hk2 hk3 => hout k (.inl hk2) (by rw [hbl] at hk3; exact hk3))
    · refine clean_torn h.clean hb ht (hbl'.trans hbl.symm) (fun k hk1 hk2 hk3 => nw k hk1 (by rw [hbl] at hk2; exact hk2) hk3) hmix2 ?_
      refine Classical.byContradiction fun hno => hnew fun j hj => ?_
      exact Classical.byContradiction fun hne => hno ⟨j, hj, hne⟩
/-- A record is committed. -/
theorem RI.commit (h : RI d z c s q e) (nw : NW d z c e q.length) (hm : mayR r = true) (h5 : ∀ x ∈ r, x.p.length = 512) (ht : mayT c (q.length : Int) = true) (room : e + needN ((bytesR r).length : Nat) ≤ z) (ok : d.settles (1 + e) (rowS c q.length r) = true) :
    RI (d.settle (1 + e) (rowS c q.length r)) z c s (q ++ [(c, r)]) (e + needN ((bytesR r).length : Nat)) ∧ NW (d.settle (1 + e) (rowS c q.length r)) z c (e + needN ((bytesR r).length : Nat)) (q.length + 1) := by
  obtain ⟨h1, h2⟩ := settle_alive ok
  have hrl := rowS_len c q.length r
  have hra := rowS_all (c := c) (n := q.length) hm h5
  have hzl := h.len
  have hlen : (d.settle (1 + e) (rowS c q.length r)).rd.length = d.rd.length := settle_len _ _ _
  have hin : ∀ j, j < (rowS c q.length r).length → (d.settle (1 + e) (rowS c q.length r)).rd[1 + e + j]? = (rowS c q.length r)[j]? := fun j hj => by
    rw [h1]
    exact layL_in (by rw [hrl]; omega) hj
  have hout : ∀ j, j < 1 + e ∨ 1 + e + (rowS c q.length r).length ≤ j → (d.settle (1 + e) (rowS c q.length r)).rd[j]? = d.rd[j]? := fun j hj => by
    rw [h1]
    exact layL_out hj
  have hall : ∀ x ∈ (d.settle (1 + e) (rowS c q.length r)).rd, x.length = 128 := fun x hx => by
    obtain ⟨j, hj⟩ := List.getElem?_of_mem hx
    by_cases hc : j < 1 + e ∨ 1 + e + (rowS c q.length r).length ≤ j
    · rw [hout j hc] at hj
      exact h.all x (List.mem_of_getElem? hj)
    · have := hin (j - (1 + e)) (by omega)
      rw [show 1 + e + (j - (1 + e)) = j by omega, hj] at this
      exact hra x (List.mem_of_getElem? this.symm)
  have hmix : MixAt (bodyOf d z) (bodyOf (d.settle (1 + e) (rowS c q.length r)) z) (rowS c q.length r) e := fun k hk => by
    rw [body_len hzl] at hk
    rw [body_half hk (by rw [hlen]; exact hzl), body_half hk hzl, List.getD_eq_getElem?_getD, List.getD_eq_getElem?_getD]
    by_cases hc : 1 + k / 2 < 1 + e ∨ 1 + e + (rowS c q.length r).length ≤ 1 + k / 2
    · rw [hout _ hc]
      exact .inl rfl
    · right
      have h9 := hin (k / 2 - e) (by omega)
      rw [show 1 + e + (k / 2 - e) = 1 + k / 2 by omega] at h9
      obtain ⟨x, hx⟩ : ∃ x, (rowS c q.length r)[k / 2 - e]? = some x := ⟨_, List.getElem?_eq_getElem (by omega)⟩
      rw [h9, hx]
      exact ⟨by omega, by omega, (hv_row (by omega) hx).symm⟩
  rcases h.mixed nw hm h5 ht room h2 hlen hall (by rw [List.getD_eq_getElem?_getD, hout 0 (by omega), ← List.getD_eq_getElem?_getD]) hmix with p | p
  · exfalso
    refine p.clean.full c h.hd.2.2.1 ⟨many (bytesR r).length, many_pos _, fun j hj => ?_⟩
    have hk := need_many (bytes_short hm h5)
    refine ⟨by rw [body_len (by rw [hlen]; exact hzl)]; omega, ?_⟩
    have hkz : 2 * e + j < 2 * z := by omega
    have h9 := hin ((2 * e + j) / 2 - e) (by rw [hrl]; omega)
    rw [show 1 + e + ((2 * e + j) / 2 - e) = 1 + (2 * e + j) / 2 by omega] at h9
    obtain ⟨x, hx⟩ : ∃ x, (rowS c q.length r)[(2 * e + j) / 2 - e]? = some x := ⟨_, List.getElem?_eq_getElem (by rw [hrl]; omega)⟩
    have h8 := hv_row (a := e) (k := 2 * e + j) (by omega) hx
    rw [show 2 * e + j - 2 * e = j by omega] at h8
    rw [body_half hkz (by rw [hlen]; exact hzl), List.getD_eq_getElem?_getD, h9, hx]
    show hdOf (halfOf x (2 * e + j)) = _
    rw [← h8, row_half hm h5 hj]
    exact rowH_hd (bytes_short hm h5) ht hj
  · exact p
/-- The power goes while a record is being committed. -/
theorem RI.commit_torn (h : RI d z c s q e) (nw : NW d z c e q.length) (hm : mayR r = true) (h5 : ∀ x ∈ r, x.p.length = 512) (ht : mayT c (q.length : Int) = true) (room : e + needN ((bytesR r).length : Nat) ≤ z) (bad : d.settles (1 + e) (rowS c q.length r) = false) (picks : List Int) :
    RI ((d.settle (1 + e) (rowS c q.length r)).crash picks) z c s q e ∨ RI ((d.settle (1 + e) (rowS c q.length r)).crash picks) z c s (q ++ [(c, r)]) (e + needN ((bytesR r).length : Nat)) := by
  have hrl := rowS_len c q.length r
  have hra := rowS_all (c := c) (n := q.length) hm h5
  have hzl := h.len
  have hfit : 1 + e + (rowS c q.length r).length ≤ d.rd.length := by rw [hrl]; omega
  obtain ⟨h1, h2⟩ := torn_settle h.vs h.all hra hfit bad picks
  have hlen : ∀ j, j < d.rd.length → (d.rd.getD j []).length = 128 := fun j hj => h.all _ (List.mem_of_getElem? (i := j) (by simp [hj]))
  have hall : ∀ x ∈ ((d.settle (1 + e) (rowS c q.length r)).crash picks).rd, x.length = 128 := all_getD fun j hj => by
    rw [h1] at hj
    obtain ⟨k1, k2⟩ := h2 j hj
    have hl := hlen j hj
    have e1 : ((((d.settle (1 + e) (rowS c q.length r)).crash picks).rd.getD j []).take 64).length = 64 := by
      rcases k1 with p | ⟨y, _, p0, p⟩
      · rw [p, List.length_take, hl]; rfl
      · rw [p, List.length_take, hra y (List.mem_of_getElem? p0)]; rfl
    have e2 : ((((d.settle (1 + e) (rowS c q.length r)).crash picks).rd.getD j []).drop 64).length = 64 := by
      rcases k2 with p | ⟨y, _, p0, p⟩
      · rw [p, List.length_drop, hl]
      · rw [p, List.length_drop, hra y (List.mem_of_getElem? p0)]
    rw [List.length_take] at e1
    rw [List.length_drop] at e2
    omega
  have hmix : MixAt (bodyOf d z) (bodyOf ((d.settle (1 + e) (rowS c q.length r)).crash picks) z) (rowS c q.length r) e := fun k hk => by
    rw [body_len hzl] at hk
    rw [body_half hk (by rw [h1]; exact hzl), body_half hk hzl]
    have hj : 1 + k / 2 < d.rd.length := by omega
    obtain ⟨k1, k2⟩ := h2 (1 + k / 2) hj
    have hx1 : (((d.settle (1 + e) (rowS c q.length r)).crash picks).rd.getD (1 + k / 2) []).length = 128 := hall _ (List.mem_of_getElem? (i := 1 + k / 2) (by rw [List.getD_eq_getElem?_getD, List.getElem?_eq_getElem (by rw [h1]; exact hj)]; rfl))
    by_cases hp : k % 2 = 0
    · rw [half_even hp, half_even hp]
      rcases k1 with p | ⟨y, p1, p0, p⟩
      · exact .inl p
      · right
        rw [show 1 + k / 2 - (1 + e) = k / 2 - e by omega] at p0
        have hlt := (List.getElem?_eq_some_iff.1 p0).1
        exact ⟨by omega, by omega, by rw [hv_row (by omega) p0, half_even hp]; exact p⟩
    · have hp1 : k % 2 = 1 := by omega
      rw [half_odd hx1 hp1, half_odd (hlen _ hj) hp1]
      rcases k2 with p | ⟨y, p1, p0, p⟩
      · exact .inl p
      · right
        rw [show 1 + k / 2 - (1 + e) = k / 2 - e by omega] at p0
        have hlt := (List.getElem?_eq_some_iff.1 p0).1
        exact ⟨by omega, by omega, by rw [hv_row (by omega) p0, half_odd (hra y (List.mem_of_getElem? p0)) hp1]; exact p⟩
  have hhd : ((d.settle (1 + e) (rowS c q.length r)).crash picks).rd.getD 0 [] = d.rd.getD 0 [] := by
    obtain ⟨k1, k2⟩ := h2 0 (by omega)
    refine halves_eq ?_ ?_
    · rcases k1 with p | ⟨y, p1, _⟩
      · exact p
      · omega
    · rcases k2 with p | ⟨y, p1, _⟩
      · exact p
      · omega
  exact (h.mixed nw hm h5 ht room (crash_gone_all (settle_out h.vs hfit bad) picks) h1 hall hhd hmix).imp id (·.1)
end
end Go.Proofs.Ytobnfadcffhfdaa
