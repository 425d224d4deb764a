/- Rows that lie one over the other, half by half: one is told whole, or none. -/
import Derived.Test.YtbnegiiombnnaaaRth
import Derived.Test.YtbnegiiombnnaaaRpa
namespace Go.Proofs.Ytbnegiiombnnaaa
open Go.RowKit

def hofL (x : RowD) : List (List UInt8) := halvesL x.c x.n.toNat x.l
def pickAt (picks : List Int) (i : Nat) : Int := (picks[i]?).getD 0
def mixH (xs : List RowD) (picks : List Int) (i : Nat) : List UInt8 :=
  if 0 < pickAt picks i ∧ pickAt picks i ≤ xs.length then (((xs[(pickAt picks i).toNat - 1]?).bind fun x => (hofL x)[i]?)).getD (nought 64) else nought 64
def mostOf : List RowD → Nat
  | [] => 0
  | x :: r => max (many x.l.length) (mostOf r)
def mixL (xs : List RowD) (picks : List Int) : List (List UInt8) := (List.range (mostOf xs)).map (mixH xs picks)

theorem hofL_at {x : RowD} {i : Nat} {h : List UInt8} (hi : (hofL x)[i]? = some h) : i < many x.l.length ∧ h = halfL x.c x.n.toNat (many x.l.length) x.l i := by
  have hlt : i < many x.l.length := by
    have := (List.getElem?_eq_some_iff.1 hi).1
    rwa [hofL, halvesL_len] at this
  refine ⟨hlt, ?_⟩
  unfold hofL at hi
  rw [halvesL_at hlt] at hi
  injection hi with hi
  exact hi.symm
theorem mixH_len (xs : List RowD) (picks : List Int) (i : Nat) : (mixH xs picks i).length = 64 := by
  unfold mixH
  split
  · cases hx : xs[(pickAt picks i).toNat - 1]? with
    | none => simp [nought]
    | some x =>
      cases hh : (hofL x)[i]? with
      | none => simp [hh, nought]
      | some h =>
        obtain ⟨h1, h2⟩ := hofL_at hh
        simp only [Option.bind_some, hh, Option.getD_some]
        rw [h2]
        exact halfL_len h1
  · exact nought_len 64
theorem mix64 (xs : List RowD) (picks : List Int) : All64 (mixL xs picks) := fun l hl => by
  obtain ⟨i, _, rfl⟩ := List.mem_map.1 hl
  exact mixH_len xs picks i
theorem hv_sectors {ls : List (List UInt8)} (h : All64 ls) {k : Nat} (hk : k / 2 < (ls.length + 1) / 2) : hv (sectorsL ls) k = (ls[k]?).getD (nought 64) := by
  have hs : (sectorsL ls)[k / 2]? = some (secL ls (k / 2)) := by simp [sectorsL, hk]
  have q : ∀ j : Nat, ((ls[j]?).getD (nought 64)).length = 64 := fun j => by
    cases hj : ls[j]? with
    | none => simp [nought]
    | some l => exact h l (List.mem_of_getElem? hj)
  unfold hv
  rw [hs]
  simp only [Option.getD_some]
  unfold secL
  have hm : k % 2 = 0 ∨ k % 2 = 1 := by omega
  rcases hm with hm | hm
  · have e : 2 * (k / 2) = k := by omega
    rw [hm, Nat.mul_zero, List.drop_zero, e]
    exact List.take_left' (q k)
  · have e : 2 * (k / 2) + 1 = k := by omega
    rw [hm, Nat.mul_one, e, List.drop_left' (q _)]
    exact List.take_of_length_le (by rw [q]; omega)
theorem padB_inj {b b' : List UInt8} (hb : b.length ≤ 32768) (hb' : b'.length ≤ 32768) (h : padB b = padB b') : b = b' := by
  have h1 := con_pad hb
  rw [h, con_pad hb'] at h1
  injection h1 with h1
  exact h1.symm
theorem pad_of_halves {c n m : Nat} {b b' : List UInt8} (hm : many b.length = m) (hm' : many b'.length = m) (h : ∀ i, i < m → halfL c n m b i = halfL c n m b' i) : padB b = padB b' := by
  have h1 := padB_len b
  have h2 := padB_len b'
  rw [hm] at h1
  rw [hm'] at h2
  rw [← pieces_cat h1, ← pieces_cat h2]
  have : ∀ K, K ≤ m → (List.range K).flatMap (fun i => ((padB b).drop (48 * i)).take 48) = (List.range K).flatMap (fun i => ((padB b').drop (48 * i)).take 48) := fun K => by
    induction K with
    | zero => intro _; rfl
    | succ K ih =>
      intro hK
      rw [List.range_succ, List.flatMap_append, List.flatMap_append, ih (by omega)]
      have h4 := tagB_inj (p := ((padB b).drop (48 * K)).take 48) (h K (by omega))
      simp only [List.flatMap_cons, List.flatMap_nil, List.append_nil]
      rw [h4]
  exact this _ (Nat.le_refl _)
/-- Rows of unlike tags that may be, of few bytes. -/
structure Apart5 (xs : List RowD) : Prop where
  may : ∀ x ∈ xs, mayT x.c x.n = true
  few : ∀ x ∈ xs, x.l.length ≤ 3000
  tags : ∀ (i j : Nat) (x y : RowD), xs[i]? = some x → xs[j]? = some y → x.c = y.c → x.n = y.n → i = j

theorem may_nat {c : Nat} {n : Int} (h : mayT c n = true) : ((n.toNat : Nat) : Int) = n ∧ 1 ≤ c ∧ c ≤ 4611686018427387904 ∧ n.toNat ≤ 2147483647 := by
  unfold mayT at h
  simp at h
  omega
theorem mixed_join {xs : List RowD} {picks : List Int} (h : Apart5 xs) {b : List UInt8} (hj : joinOf (sectorsL (mixL xs picks)) = some b) :
    ∃ (j : Nat) (x : RowD), xs[j]? = some x ∧ tagAt (sectorsL (mixL xs picks)) = (x.c, x.n.toNat) ∧ b = x.l ∧ ∀ k, k < many x.l.length → k < picks.length ∧ pickAt picks k = (j : Int) + 1 := by
  have hs128 : ∀ s ∈ sectorsL (mixL xs picks), s.length = 128 := fun s hm => by
    obtain ⟨i, _, rfl⟩ := List.mem_map.1 hm
    exact secL_len (mix64 xs picks) i
  rw [← refJ_eq hs128] at hj
  generalize hss : sectorsL (mixL xs picks) = ss at *
  unfold refJ at hj
  split at hj
  · cases hj
  split at hj
  rotate_left
  · cases hj
  rename_i hne hmm
  split at hj
  rotate_left
  · cases hj
  rename_i hkk
  split at hj
  rotate_left
  · cases hj
  rename_i hall
  injection hj with hb
  obtain ⟨hmay, hm1, hm2⟩ := hmm
  obtain ⟨hk1, hk2⟩ := hkk
  have htag : tagAt ss = ((hdOf (hv ss 0)).c, (hdOf (hv ss 0)).n) := rfl
  have hm9 : (hdOf (hv ss 0)).m < 65536 := numOf2_lt (by rw [List.length_take]; omega)
  generalize hdOf (hv ss 0) = X at *
  obtain ⟨c, n, p, m⟩ := X
  simp only at hmay hm1 hm2 hk2 hall hb htag hm9
  rw [hb] at hall
  generalize numOf (((hv ss 0).drop 16).take 4) = k at *
  have hcn := may_nat hmay
  have hlen : (sectorsL (mixL xs picks)).length = (mostOf xs + 1) / 2 := by rw [sectorsL_len, mixL, List.length_map, List.length_range]
  rw [hss] at hlen
  have hbl : b.length = k := by
    have hpl := pcsOf_len hs128 m
    have hmk : k + 4 ≤ m * 48 := by have := hk2; unfold many at this; omega
    rw [← hb, List.length_take, List.length_drop, hpl]
    omega
  have hmb : many b.length = m := by rw [hbl]; exact hk2
  have hat : ∀ i, i < m → hv ss i = halfL c n m b i := fun i hi => (of_decide_eq_true (List.all_eq_true.1 hall i (List.mem_range.2 hi))).symm
  have hfits : ∀ i, i < m → Fits ⟨c, n, i, m⟩ := fun i hi => ⟨by show c < _; omega, by show n < _; omega, by show i < _; omega, hm9⟩
  -- which row a half is of
  have hrow : ∀ i, i < m → ∃ (j : Nat) (x : RowD), xs[j]? = some x ∧ i < picks.length ∧ pickAt picks i = (j : Int) + 1 ∧ x.c = c ∧ x.n.toNat = n ∧ many x.l.length = m ∧ hv ss i = halfL x.c x.n.toNat (many x.l.length) x.l i := fun i hi => by
    have h1 := hat i hi
    have hhd : hdOf (hv ss i) = ⟨c, n, i, m⟩ := by rw [h1]; exact hd_tagB (hfits i hi) _
    have h2 : hv ss i = ((mixL xs picks)[i]?).getD (nought 64) := by
      rw [← hss]
      exact hv_sectors (mix64 xs picks) (by rw [mixL, List.length_map, List.length_range]; omega)
    have hnn : hv ss i ≠ nought 64 := by
      intro q
      rw [q, hd_nought] at hhd
      injection hhd with q1
      omega
    cases hmi : (mixL xs picks)[i]? with
    | none => rw [hmi] at h2; exact absurd h2 hnn
    | some l =>
      rw [hmi, Option.getD_some] at h2
      have hli : l = mixH xs picks i := by
        have hlt : i < mostOf xs := by
          have := (List.getElem?_eq_some_iff.1 hmi).1
          rwa [mixL, List.length_map, List.length_range] at this
        unfold mixL at hmi
        rw [List.getElem?_map, List.getElem?_range hlt] at hmi
        injection hmi with hmi
        exact hmi.symm
      rw [hli] at h2
      unfold mixH at h2
      split at h2
      rotate_left
      · exact absurd h2 hnn
      rename_i hp
      cases hx : xs[(pickAt picks i).toNat - 1]? with
      | none => rw [hx] at h2; exact absurd h2 hnn
      | some x =>
        rw [hx, Option.bind_some] at h2
        cases hh : (hofL x)[i]? with
        | none => rw [hh] at h2; exact absurd h2 hnn
        | some g =>
          rw [hh, Option.getD_some] at h2
          obtain ⟨g1, g2⟩ := hofL_at hh
          rw [g2] at h2
          have hxm := may_nat (h.may x (List.mem_of_getElem? hx))
          have hx3 := h.few x (List.mem_of_getElem? hx)
          have hmx : many x.l.length < 65536 := by unfold many; omega
          have hhd2 : hdOf (hv ss i) = ⟨x.c, x.n.toNat, i, many x.l.length⟩ := by
            rw [h2]
            exact hd_tagB ⟨by show x.c < _; omega, by show x.n.toNat < _; omega, by show i < _; omega, hmx⟩ _
          rw [hhd] at hhd2
          injection hhd2 with e1 e2 e3 e4
          have hpl : i < picks.length := by
            rcases Nat.lt_or_ge i picks.length with q | q
            · exact q
            · unfold pickAt at hp
              rw [List.getElem?_eq_none q] at hp
              simp at hp
          exact ⟨(pickAt picks i).toNat - 1, x, hx, hpl, by omega, e1.symm, e2.symm, e4.symm, h2⟩
  obtain ⟨j, x, hx, _, _, ec, en, em, _⟩ := hrow 0 (by omega)
  have hxm := may_nat (h.may x (List.mem_of_getElem? hx))
  have hrow2 : ∀ i, i < m → i < picks.length ∧ pickAt picks i = (j : Int) + 1 ∧ hv ss i = halfL c n m x.l i := fun i hi => by
    obtain ⟨j', y, hy, g1, g2, g3, g4, g5, g6⟩ := hrow i hi
    have hym := may_nat (h.may y (List.mem_of_getElem? hy))
    have hjj := h.tags j j' x y hx hy (by omega) (by omega)
    subst hjj
    rw [hx] at hy
    injection hy with hy
    subst hy
    rw [g3, g4, g5] at g6
    exact ⟨g1, g2, g6⟩
  refine ⟨j, x, hx, by rw [htag, ec, en], ?_, fun k hk => ?_⟩
  · have hx3 := h.few x (List.mem_of_getElem? hx)
    refine padB_inj (by omega) (by omega) (pad_of_halves (c := c) (n := n) hmb em (fun i hi => ?_))
    rw [← hat i hi]
    exact (hrow2 i hi).2.2
  · rw [em] at hk
    exact ⟨(hrow2 k hk).1, (hrow2 k hk).2.1⟩
end Go.Proofs.Ytbnegiiombnnaaa
