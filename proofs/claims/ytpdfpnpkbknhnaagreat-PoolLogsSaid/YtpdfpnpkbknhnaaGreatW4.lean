/- W4: laid together out of Thy Hkn. -/
import Derived.Great.BuildSlice
import Derived.Test.YtpdfpnpkbknhnaaGreatW3
namespace Go.Proofs.YtpdfpnpkbknhnaaGreat
open Go.RowKit

set_option maxRecDepth 100000 in
theorem be_succ (n s : Nat) : be n (s + 1) = UInt8.ofNat (n / 256 ^ s % 256) :: be n s := by
  unfold be
  rw [List.range_succ_eq_map, List.map_cons, List.map_map]
  congr 1
  apply List.map_congr_left
  intro i hi
  simp only [Function.comp_apply]
  congr 4
  omega
set_option maxRecDepth 100000 in
theorem numOf_be_mod (n : Nat) : ∀ s, numOf (be n s) = n % 256 ^ s
  | 0 => by simp [be, numOf, Nat.mod_one]
  | s + 1 => by
    have e : be n (s + 1) = [UInt8.ofNat (n / 256 ^ s % 256)] ++ be n s := be_succ n s
    have h1 : numOf [UInt8.ofNat (n / 256 ^ s % 256)] = n / 256 ^ s % 256 := by
      simp [numOf, UInt8.toNat_ofNat']
    rw [e, numOf_app, h1, be_len, numOf_be_mod n s, Nat.pow_succ, Nat.mod_mul, Nat.mul_comm, Nat.add_comm]
set_option maxRecDepth 100000 in
theorem numOf_be (n s : Nat) (hn : n < 256 ^ s) : numOf (be n s) = n := by
  rw [numOf_be_mod, Nat.mod_eq_of_lt hn]

/-- A head that has room. -/
def Fits (x : Hd) : Prop := x.c < 18446744073709551616 ∧ x.n < 4294967296 ∧ x.p < 65536 ∧ x.m < 65536
set_option maxRecDepth 100000 in
theorem hd_tagB {x : Hd} (h : Fits x) (p : List UInt8) : hdOf (tagB x p) = x := by
  obtain ⟨h0, h1, h2, h3⟩ := h
  cases x with
  | mk c n q m =>
    simp only at h0 h1 h2 h3
    have a0 : (tagB ⟨c, n, q, m⟩ p).take 8 = be c 8 := List.take_left' (be_len _ _)
    have b0 : (tagB ⟨c, n, q, m⟩ p).drop 8 = be n 4 ++ (be q 2 ++ (be m 2 ++ p)) := List.drop_left' (be_len _ _)
    have b1 : (tagB ⟨c, n, q, m⟩ p).drop 12 = be q 2 ++ (be m 2 ++ p) := by
      have : (tagB ⟨c, n, q, m⟩ p).drop 12 = ((tagB ⟨c, n, q, m⟩ p).drop 8).drop 4 := by rw [List.drop_drop]
      rw [this, b0]
      exact List.drop_left' (be_len _ _)
    have b2 : (tagB ⟨c, n, q, m⟩ p).drop 14 = be m 2 ++ p := by
      have : (tagB ⟨c, n, q, m⟩ p).drop 14 = ((tagB ⟨c, n, q, m⟩ p).drop 12).drop 2 := by rw [List.drop_drop]
      rw [this, b1]
      exact List.drop_left' (be_len _ _)
    unfold hdOf
    rw [a0, b0, b1, b2, List.take_left' (be_len _ _), List.take_left' (be_len _ _), List.take_left' (be_len _ _), numOf_be c 8 (by omega), numOf_be n 4 (by omega), numOf_be q 2 (by omega), numOf_be m 2 (by omega)]
set_option maxRecDepth 100000 in
theorem drop_tagB (x : Hd) (p : List UInt8) : (tagB x p).drop 16 = p := by
  have : tagB x p = (be x.c 8 ++ (be x.n 4 ++ (be x.p 2 ++ be x.m 2))) ++ p := by simp [tagB]
  rw [this]
  exact List.drop_left' (by simp [be_len])
set_option maxRecDepth 100000 in
theorem hd_nought : hdOf (nought 64) = ⟨0, 0, 0, 0⟩ := hdEq_iff.1 (by decide +kernel)

/-- A row's halves, one behind the other. -/
def tags (c n m : Nat) (f : Nat → List UInt8) (k : Nat) : List UInt8 := (List.range k).flatMap fun i => tagB ⟨c, n, i, m⟩ (f i)
set_option maxRecDepth 100000 in
theorem tags_succ (c n m : Nat) (f : Nat → List UInt8) (k : Nat) : tags c n m f (k + 1) = tags c n m f k ++ tagB ⟨c, n, k, m⟩ (f k) := by
  simp [tags, List.range_succ]
set_option maxRecDepth 100000 in
theorem tags_len {c n m : Nat} {f : Nat → List UInt8} (k : Nat) (hf : ∀ i, i < k → (f i).length = 48) : (tags c n m f k).length = k * 64 := by
  induction k with
  | zero => rfl
  | succ k ih =>
    rw [tags_succ, List.length_append, ih (fun i hi => hf i (by omega)), tagB_len _ (hf k (by omega))]
    omega
set_option maxRecDepth 100000 in
theorem laid_tags {c n m L : Nat} {all : List UInt8} (hl : all.length = m * 48) (hm : 0 < m) (hL : 64 * m ≤ L) : ∀ k, k ≤ m → laid c n m (nought L) (upto (fpOf all m hl hm) k) = tags c n m (fun i => (all.drop (48 * i)).take 48) k ++ nought (L - 64 * k)
  | 0, _ => by simp [upto, laid, tags]
  | k + 1, hk => by
    have hf : ∀ i, i < k → ((fun i => (all.drop (48 * i)).take 48) i).length = 48 := fun i hi => by
      simp only [List.length_take, List.length_drop]; omega
    have ht := tags_len (c := c) (n := n) (m := m) k hf
    obtain ⟨e1, e2⟩ := fpOf_at hl hm (k := k) (by omega)
    rw [upto_succ, laid_snoc, laid_tags hl hm hL k (by omega), e1, e2, tags_succ]
    have h1 := patch_app (tags c n m (fun i => (all.drop (48 * i)).take 48) k) (nought (L - 64 * k)) (tagB ⟨c, n, k, m⟩ ((all.drop (48 * k)).take 48))
    have h2 : k * 64 = 64 * k := by omega
    rw [ht, h2] at h1
    rw [h1, tagB_len _ (by simp only [List.length_take, List.length_drop]; omega), nought_drop]
    have h3 : L - 64 * k - 64 = L - 64 * (k + 1) := by omega
    rw [h3]
    simp
set_option maxRecDepth 100000 in
theorem rowB_tags (c n : Nat) (b : List UInt8) : rowB c n b = tags c n (many b.length) (fun i => ((padB b).drop (48 * i)).take 48) (many b.length) ++ nought ((many b.length + 1) / 2 * 128 - 64 * many b.length) := by
  unfold rowB
  rw [laid_tags (padB_len b) (many_pos _) (by omega) _ (Nat.le_refl _)]
set_option maxRecDepth 100000 in
theorem rowB_len (c n : Nat) (b : List UInt8) : (rowB c n b).length = (many b.length + 1) / 2 * 128 := by
  have hp := padB_len b
  rw [rowB_tags, List.length_append, nought_len, tags_len _ (fun i hi => by simp only [List.length_take, List.length_drop]; omega)]
  omega

/-- Bytes as sectors. -/
def secs (l : List UInt8) (N : Nat) : List (List UInt8) := (List.range N).map fun i => (l.drop (128 * i)).take 128
set_option maxRecDepth 100000 in
theorem secs_len (l : List UInt8) (N : Nat) : (secs l N).length = N := by simp [secs]
set_option maxRecDepth 100000 in
theorem secs_at (l : List UInt8) {N i : Nat} (h : i < N) : (secs l N)[i]? = some ((l.drop (128 * i)).take 128) := by
  simp [secs, h]
set_option maxRecDepth 100000 in
theorem hv_secs {l : List UInt8} {N k : Nat} (hk : k / 2 < N) (more : List (List UInt8)) : hv (secs l N ++ more) k = (l.drop (64 * k)).take 64 := by
  unfold hv
  rw [List.getElem?_append_left (by rw [secs_len]; exact hk), secs_at l hk]
  simp only [Option.getD_some]
  rw [List.drop_take, List.drop_drop, List.take_take]
  have e1 : 128 * (k / 2) + 64 * (k % 2) = 64 * k := by omega
  have e2 : min 64 (128 - 64 * (k % 2)) = 64 := by omega
  rw [e1, e2]
set_option maxRecDepth 100000 in
theorem tags_at {c n m : Nat} {f : Nat → List UInt8} {K k : Nat} (hf : ∀ i, i < K → (f i).length = 48) (hk : k < K) (z : List UInt8) : ((tags c n m f K ++ z).drop (64 * k)).take 64 = tagB ⟨c, n, k, m⟩ (f k) := by
  induction K generalizing z with
  | zero => omega
  | succ K ih =>
    rw [tags_succ, List.append_assoc]
    by_cases e : k = K
    · subst e
      have hl := tags_len (c := c) (n := n) (m := m) k (fun i hi => hf i (by omega))
      have h1 : ((tags c n m f k) ++ (tagB ⟨c, n, k, m⟩ (f k) ++ z)).drop (64 * k) = tagB ⟨c, n, k, m⟩ (f k) ++ z := List.drop_left' (by rw [hl]; omega)
      rw [h1]
      exact List.take_left' (tagB_len _ (hf k (by omega)))
    · exact ih (fun i hi => hf i (by omega)) (by omega) _
set_option maxRecDepth 100000 in
theorem pieces_cat {l : List UInt8} {m : Nat} (hl : l.length = m * 48) : (List.range m).flatMap (fun i => (l.drop (48 * i)).take 48) = l := by
  have h : ∀ k, k ≤ m → (List.range k).flatMap (fun i => (l.drop (48 * i)).take 48) = l.take (48 * k) := fun k => by
    induction k with
    | zero => intro _; simp
    | succ k ih =>
      intro hk
      rw [List.range_succ, List.flatMap_append, ih (by omega)]
      have e : 48 * (k + 1) = 48 * k + 48 := by omega
      rw [e, List.take_add]
      simp
  rw [h m (Nat.le_refl _), List.take_of_length_le (by omega)]

set_option maxRecDepth 100000 in
theorem con_pad {b : List UInt8} (hb : b.length ≤ 32768) : conOf (padB b) = some b := by
  have hl := padB_len b
  have h4 : (padB b).take 4 = be b.length 4 := List.take_left' (be_len _ _)
  have hn : numOf ((padB b).take 4) = b.length := by rw [h4, numOf_be _ _ (by omega)]
  have hd : (padB b).drop 4 = b ++ nought (many b.length * 48 - 4 - b.length) := List.drop_left' (be_len _ _)
  have hmp := many_pos b.length
  unfold conOf
  simp only [hn]
  rw [if_neg, if_pos]
  · rw [hd, List.take_left' rfl]
  · rw [← List.drop_drop, hd, List.drop_left' rfl]
    simp [nought]
  · rintro (q | q | q)
    · rw [q] at hl; simp at hl; omega
    · omega
    · rw [hl] at q; exact q rfl

set_option maxRecDepth 100000 in
/-- A row is read as it is, whatever stands behind it. -/
theorem join_row {c n : Nat} {b : List UInt8} (hb : b.length ≤ 32768) (hm : mayT c (n : Int) = true) (more : List (List UInt8)) :
    tagAt (secs (rowB c n b) ((many b.length + 1) / 2) ++ more) = (c, n) ∧ joinOf (secs (rowB c n b) ((many b.length + 1) / 2) ++ more) = some b := by
  have hp := padB_len b
  have hmp := many_pos b.length
  have hm7 : many b.length ≤ 683 := by unfold many; omega
  have hcn : c ≤ 4611686018427387904 ∧ n ≤ 2147483647 := by unfold mayT at hm; simp at hm; omega
  have hf : ∀ i, i < many b.length → ((fun i => ((padB b).drop (48 * i)).take 48) i).length = 48 := fun i hi => by
    simp only [List.length_take, List.length_drop]; omega
  have hat : ∀ k, k < many b.length → hv (secs (rowB c n b) ((many b.length + 1) / 2) ++ more) k = tagB ⟨c, n, k, many b.length⟩ (((padB b).drop (48 * k)).take 48) := fun k hk => by
    rw [hv_secs (by omega), rowB_tags]
    exact tags_at hf hk _
  have hhd : ∀ k, k < many b.length → hdOf (hv (secs (rowB c n b) ((many b.length + 1) / 2) ++ more) k) = ⟨c, n, k, many b.length⟩ := fun k hk => by
    rw [hat k hk]
    exact hd_tagB ⟨by show c < _; omega, by show n < _; omega, by show k < _; omega, by show many b.length < _; omega⟩ _
  have h0 := hhd 0 hmp
  have htag : tagAt (secs (rowB c n b) ((many b.length + 1) / 2) ++ more) = (c, n) := by unfold tagAt; rw [h0]
  refine ⟨htag, ?_⟩
  have hne : secs (rowB c n b) ((many b.length + 1) / 2) ++ more ≠ [] := by
    intro e
    have h1 := congrArg List.length e
    rw [List.length_append, secs_len] at h1
    simp at h1
    omega
  have htog : togAll (secs (rowB c n b) ((many b.length + 1) / 2) ++ more) = some (padB b) := by
    unfold togAll
    rw [if_neg hne, htag]
    simp only [hm, if_true]
    unfold togOf
    rw [h0]
    simp only
    rw [if_pos]
    · congr 1
      rw [← pieces_cat hp]
      have : ∀ K, K ≤ many b.length → (List.range K).flatMap (fun k => (hv (secs (rowB c n b) ((many b.length + 1) / 2) ++ more) k).drop 16) = (List.range K).flatMap (fun i => ((padB b).drop (48 * i)).take 48) := fun K => by
        induction K with
        | zero => intro _; rfl
        | succ K ih =>
          intro hK
          rw [List.range_succ, List.flatMap_append, List.flatMap_append, ih (by omega)]
          simp only [List.flatMap_cons, List.flatMap_nil, List.append_nil]
          rw [hat K (by omega), drop_tagB]
      exact this _ (Nat.le_refl _)
    · refine ⟨hmp, by rw [List.length_append, secs_len]; omega, List.all_eq_true.2 fun k hk => ?_⟩
      exact hdEq_iff.2 (hhd k (List.mem_range.1 hk))
  unfold joinOf
  rw [htog]
  exact con_pad hb

set_option maxRecDepth 100000 in
/-- A row less some sectors is none. -/
theorem join_less {c n : Nat} {b : List UInt8} (hb : b.length ≤ 32768) (hm : mayT c (n : Int) = true) {N : Nat} (hN : 2 * N < many b.length) : joinOf (secs (rowB c n b) N) = none := by
  have hp := padB_len b
  have hmp := many_pos b.length
  have hm7 : many b.length ≤ 683 := by unfold many; omega
  have hcn : c ≤ 4611686018427387904 ∧ n ≤ 2147483647 := by unfold mayT at hm; simp at hm; omega
  have hf : ∀ i, i < many b.length → ((fun i => ((padB b).drop (48 * i)).take 48) i).length = 48 := fun i hi => by
    simp only [List.length_take, List.length_drop]; omega
  have htog : togAll (secs (rowB c n b) N) = none := by
    unfold togAll
    split
    · rfl
    · rename_i hne
      have hN0 : 0 < N := by
        rcases Nat.eq_zero_or_pos N with e | e
        · subst e; exact absurd rfl hne
        · exact e
      have h0 : hdOf (hv (secs (rowB c n b) N) 0) = ⟨c, n, 0, many b.length⟩ := by
        have h1 := hv_secs (l := rowB c n b) (N := N) (k := 0) (by omega) []
        rw [List.append_nil] at h1
        rw [h1, rowB_tags, tags_at hf hmp]
        exact hd_tagB ⟨by show c < _; omega, by show n < _; omega, by show 0 < _; omega, by show many b.length < _; omega⟩ _
      split
      · unfold togOf
        rw [h0]
        simp only
        rw [if_neg]
        rintro ⟨_, h2, _⟩
        rw [secs_len] at h2
        omega
      · rfl
  unfold joinOf
  rw [htog]
  rfl
set_option maxRecDepth 100000 in
/-- A row of two halves, torn, is none. -/
theorem join_torn {c n : Nat} {b : List UInt8} (hm : mayT c (n : Int) = true) (h2 : many b.length = 2) : joinOf [tornOf (rowB c n b) (nought 128)] = none := by
  have hp := padB_len b
  have hcn : c ≤ 4611686018427387904 ∧ n ≤ 2147483647 := by unfold mayT at hm; simp at hm; omega
  have hf : ∀ i, i < many b.length → ((fun i => ((padB b).drop (48 * i)).take 48) i).length = 48 := fun i hi => by
    simp only [List.length_take, List.length_drop]; omega
  have hl := rowB_len c n b
  rw [h2] at hl
  have hT : (tornOf (rowB c n b) (nought 128)) = (rowB c n b).take 64 ++ nought 64 := by
    unfold tornOf
    rw [nought_drop]
  have hl64 : ((rowB c n b).take 64).length = 64 := by rw [List.length_take, hl]; omega
  have h0 : hv [tornOf (rowB c n b) (nought 128)] 0 = tagB ⟨c, n, 0, many b.length⟩ (((padB b).drop (48 * 0)).take 48) := by
    have h3 := tags_at (c := c) (n := n) (m := many b.length) (k := 0) hf (by omega) (nought ((many b.length + 1) / 2 * 128 - 64 * many b.length))
    rw [← rowB_tags] at h3
    simp only [Nat.mul_zero, List.drop_zero] at h3 ⊢
    rw [← h3]
    unfold hv
    simp only [Nat.zero_div, Nat.zero_mod, Nat.mul_zero, List.getElem?_cons_zero, Option.getD_some, List.drop_zero]
    rw [hT, List.take_left' hl64]
  have h1 : hv [tornOf (rowB c n b) (nought 128)] 1 = nought 64 := by
    unfold hv
    simp only [show (1 : Nat) / 2 = 0 from rfl, show (1 : Nat) % 2 = 1 from rfl, Nat.mul_one, List.getElem?_cons_zero, Option.getD_some]
    rw [hT, List.drop_left' hl64, List.take_of_length_le (by simp [nought])]
  have hh : hdOf (hv [tornOf (rowB c n b) (nought 128)] 0) = ⟨c, n, 0, many b.length⟩ := by
    rw [h0]
    exact hd_tagB ⟨by show c < _; omega, by show n < _; omega, by show 0 < _; omega, by show many b.length < _; omega⟩ _
  have htog : togAll [tornOf (rowB c n b) (nought 128)] = none := by
    unfold togAll
    split
    · rfl
    · split
      · unfold togOf
        rw [hh]
        simp only
        rw [if_neg]
        rintro ⟨_, _, h4⟩
        have h5 := List.all_eq_true.1 h4 1 (List.mem_range.2 (by omega))
        rw [h1, hd_nought] at h5
        have h6 := hdEq_iff.1 h5
        injection h6 with _ _ e3 _
        exact absurd e3 (by decide)
      · rfl
  unfold joinOf
  rw [htog]
  rfl
set_option maxRecDepth 100000 in
theorem join_nil : joinOf [] = none := rfl

set_option maxRecDepth 100000 in
/-- A row in a block of its own, as sectors. -/
theorem secs_in {w : World} {R N : Nat} {t : TypeId} {l : List UInt8} (h : Blk w R t (cellsB l).toArray) (hl : l.length = N * 128) {K : Nat} (hK : K ≤ N) : SecsAt w R 0 (secs l K) := fun i s hi => by
  have hlt : i < K := by
    have := (List.getElem?_eq_some_iff.1 hi).1
    rw [secs_len] at this
    exact this
  rw [secs_at l hlt] at hi
  injection hi with hi
  subst hi
  refine ⟨by rw [List.length_take, List.length_drop]; omega, ?_⟩
  have := h.range (128 * i) 128
  have e : 0 + i * 128 = 128 * i := by omega
  rw [e]
  exact this
set_option maxRecDepth 100000 in
theorem secIn_row {w : World} {R N cap : Nat} {t : TypeId} {l : List UInt8} (h : Blk w R t (cellsB l).toArray) (hl : l.length = N * 128) {K : Nat} (hK : K ≤ N) : SecIn w (.slice (some ⟨R, 0, none⟩) K cap) (secs l K) := by
  rcases Nat.eq_zero_or_pos K with e | e
  · subst e
    exact .inl ⟨rfl, _, _, rfl⟩
  · exact .inr ⟨R, 0, cap, by rw [secs_len], by rw [secs_len]; exact e, secs_in h hl hK⟩
end Go.Proofs.YtpdfpnpkbknhnaaGreat

namespace Go.Proofs.YtpdfpnpkbknhnaaGreat
open Go.RowKit

/-- Split of a tag that may be, of few bytes; the row lies in a block of its own. -/
def SplitR (w : World) (c n : Nat) (b : List UInt8) (e : Ending) (w' : World) : Prop :=
  ∃ R, e = .returned (.tuple #[.slice (some ⟨R, 0, none⟩) ((many b.length + 1) / 2) ((many b.length + 1) / 2), .int .i64 0]) ∧ w.heap.size ≤ R ∧ Blk w' R 83 (cellsB (rowB c n b)).toArray ∧ Fr (fun _ => False) w w'
set_option maxRecDepth 100000 in
theorem split_any {w : World} {A : Option Addr} {cb : Nat} {b : List UInt8} (hr : Rd w A b.length b) (hk : b.length ≤ 32768) (c n : Nat) (h : mayT c (n : Int) = true) :
    Calls Tryz.prog 113 #[.agg #[.int .u64 c, .int .i64 n], .slice A b.length cb] w (SplitR w c n b) := by
  have hN : needN (b.length : Int) = (many b.length + 1) / 2 := by simp [needN]; omega
  have h1 := split_ok (cb := cb) hr hk c n h
  rw [hN] at h1
  exact h1
set_option maxRecDepth 100000 in
theorem fold_set : ∀ (l : List Value) (k : Nat) (acc : Array Value), k + l.length ≤ acc.size → ((l.zipIdx k).foldl (fun cs (x : Value × Nat) => cs.setIfInBounds (0 + x.2) x.1) acc) = (acc.toList.take k ++ (l ++ acc.toList.drop (k + l.length))).toArray
  | [], k, acc, _ => by simp
  | x :: l, k, acc, h => by
    simp only [List.length_cons] at h
    rw [List.zipIdx_cons, List.foldl_cons, fold_set l (k + 1) _ (by simp; omega)]
    simp only [Nat.zero_add, Array.toList_setIfInBounds]
    have h1 : k < acc.toList.length := by simp; omega
    have e1 : (acc.toList.set k x).take (k + 1) = acc.toList.take k ++ [x] := by
      rw [List.take_set, List.take_succ_eq_append_getElem h1]
      have h4 : (acc.toList.take k).length = k := by rw [List.length_take]; omega
      rw [List.set_append_right _ _ (by omega), h4, Nat.sub_self]
      rfl
    have e2 : (acc.toList.set k x).drop (k + 1 + l.length) = acc.toList.drop (k + (l.length + 1)) := by
      rw [List.drop_set_of_lt (by omega)]
      congr 1
      omega
    rw [e1, e2]
    simp
set_option maxRecDepth 100000 in
theorem fill_one {cs base : List Value} (h : cs.length = base.length) (K : Nat) (hK : cs.length = K) : Instr.fill (fun i => some (i * K, K)) base.toArray [(0, .agg cs.toArray)] = some cs.toArray := by
  have h1 := fold_set cs 0 base.toArray (by simp [h])
  have h2 : base.drop (0 + cs.length) = [] := List.drop_eq_nil_of_le (by omega)
  rw [List.toList_toArray, h2] at h1
  simp only [Instr.fill, Value.cells, Nat.zero_mul]
  rw [if_neg (by simp; omega)]
  rw [← Array.foldl_toList, Array.toList_zipIdx, List.toList_toArray, h1]
  simp
set_option maxRecDepth 100000 in
theorem slice_of_one {l : List UInt8} (hl : l.length = 128) (w : World) : (Instr.buildSlice 71 1 #[(0, .agg (cellsB l).toArray)]).run Tryz.prog w = .ok (.slice (some ⟨w.heap.size, 0, none⟩) 1 1) (w.alloc (.cells (cellsB l).toArray 83)) := by
  obtain ⟨i0, hi, hz0, hz1, hz2⟩ := info_parts infoSec
  refine run_buildSlice w 71 83 1 _ _ i0 _ Tryz.underlying71 hi hz0 (by rw [hz1]; omega) (by rw [hz1]; omega) ?_
  rw [hz1]
  have hb : ((Array.range (1 * 128)).map ((av (nought 128)).cells[· % (av (nought 128)).cells.size]!)) = (cellsB (nought 128)).toArray := made_bytes (av (nought 128)).cells 128 (1 * 128) rfl (by omega)
  rw [hb]
  exact fill_one (by simp [cellsB_len, hl, nought_len]) 128 (by rw [cellsB_len, hl])
set_option maxRecDepth 100000 in
theorem build_sector (w : World) : (Instr.build 83 #[]).run Tryz.prog w = .ok (av (nought 128)) w := by
  unfold Instr.build
  obtain ⟨i0, hi, hz0, hz1, hz2⟩ := info_parts infoU8
  rw [Sem.run_bind, zeroSector]
  simp [run_underlying Tryz.underlying83, Instr.fill, Value.cells, sizeOf, typeInfo, hi]
set_option maxRecDepth 100000 in
theorem many60 : many 60 = 2 := rfl

end Go.Proofs.YtpdfpnpkbknhnaaGreat

