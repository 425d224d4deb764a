/- W4: laid together out of Thy Hkn. -/
import Derived.Great.BuildSlice
import Derived.Test.YtcnlgbjkjlbmbaaGreatW3
namespace Go.Proofs.YtcnlgbjkjlbmbaaGreat
open Go.RowKit

set_option maxRecDepth 100000 in
theorem be_succ (n s : Nat) : be n (s + 1) = UInt8.ofNat (n / 256 ^ s % 256) :: be n s := by
 unfold be
 rw [List.range_succ_eq_map, List.map_cons, List.map_map]
 congr 1
 apply List.map_congr_left
 intro i hi
 simp only [Function.comp_apply]
 congr 4
 omega
set_option maxRecDepth 100000 in
theorem numOf_be_mod (n : Nat) : ∀ s, numOf (be n s) = n % 256 ^ s
 | 0 => by simp [be, numOf, Nat.mod_one]
 | s + 1 => by
   have e : be n (s + 1) = [UInt8.ofNat (n / 256 ^ s % 256)] ++ be n s := be_succ n s
   have h1 : numOf [UInt8.ofNat (n / 256 ^ s % 256)] = n / 256 ^ s % 256 := by
    simp [numOf, UInt8.toNat_ofNat']
   rw [e, numOf_app, h1, be_len, numOf_be_mod n s, Nat.pow_succ, Nat.mod_mul, Nat.mul_comm, Nat.add_comm]
set_option maxRecDepth 100000 in
theorem numOf_be (n s : Nat) (hn : n < 256 ^ s) : numOf (be n s) = n := by
 rw [numOf_be_mod, Nat.mod_eq_of_lt hn]

def Fits (x : Hd) : Prop := x.c < 18446744073709551616 ∧ x.n < 4294967296 ∧ x.p < 65536 ∧ x.m < 65536
set_option maxRecDepth 100000 in
theorem hd_tagB {x : Hd} (h : Fits x) (p : List UInt8) : hdOf (tagB x p) = x := by
 obtain ⟨h0, h1, h2, h3⟩ := h
 cases x with
 | mk c n q m =>
   simp only at h0 h1 h2 h3
   have a0 : (tagB ⟨c, n, q, m⟩ p).take 8 = be c 8 := List.take_left' (be_len _ _)
   have b0 : (tagB ⟨c, n, q, m⟩ p).drop 8 = be n 4 ++ (be q 2 ++ (be m 2 ++ p)) := List.drop_left' (be_len _ _)
   have b1 : (tagB ⟨c, n, q, m⟩ p).drop 12 = be q 2 ++ (be m 2 ++ p) := by
    have : (tagB ⟨c, n, q, m⟩ p).drop 12 = ((tagB ⟨c, n, q, m⟩ p).drop 8).drop 4 := by rw [List.drop_drop]
    rw [this, b0]
    exact List.drop_left' (be_len _ _)
   have b2 : (tagB ⟨c, n, q, m⟩ p).drop 14 = be m 2 ++ p := by
    have : (tagB ⟨c, n, q, m⟩ p).drop 14 = ((tagB ⟨c, n, q, m⟩ p).drop 12).drop 2 := by rw [List.drop_drop]
    rw [this, b1]
    exact List.drop_left' (be_len _ _)
   unfold hdOf
   rw [a0, b0, b1, b2, List.take_left' (be_len _ _), List.take_left' (be_len _ _), List.take_left' (be_len _ _), numOf_be c 8 (by omega), numOf_be n 4 (by omega), numOf_be q 2 (by omega), numOf_be m 2 (by omega)]
set_option maxRecDepth 100000 in
theorem drop_tagB (x : Hd) (p : List UInt8) : (tagB x p).drop 16 = p := by
 have : tagB x p = (be x.c 8 ++ (be x.n 4 ++ (be x.p 2 ++ be x.m 2))) ++ p := by simp [tagB]
 rw [this]
 exact List.drop_left' (by simp [be_len])
set_option maxRecDepth 100000 in
theorem hd_nought : hdOf (nought 64) = ⟨0, 0, 0, 0⟩ := hdEq_iff.1 (by decide +kernel)

def tags (c n m : Nat) (f : Nat → List UInt8) (k : Nat) : List UInt8 := (List.range k).flatMap fun i => tagB ⟨c, n, i, m⟩ (f i)
set_option maxRecDepth 100000 in
theorem tags_succ (c n m : Nat) (f : Nat → List UInt8) (k : Nat) : tags c n m f (k + 1) = tags c n m f k ++ tagB ⟨c, n, k, m⟩ (f k) := by
 simp [tags, List.range_succ]
set_option maxRecDepth 100000 in
theorem tags_len {c n m : Nat} {f : Nat → List UInt8} (k : Nat) (hf : ∀ i, i < k → (f i).length = 48) : (tags c n m f k).length = k * 64 := by
 induction k with
 | zero => rfl
 | succ k ih =>
   rw [tags_succ, List.length_append, ih (fun i hi => hf i (by omega)), tagB_len _ (hf k (by omega))]
   omega
set_option maxRecDepth 100000 in
theorem laid_tags {c n m L : Nat} {all : List UInt8} (hl : all.length = m * 48) (hm : 0 < m) (hL : 64 * m ≤ L) : ∀ k, k ≤ m → laid c n m (nought L) (upto (fpOf all m hl hm) k) = tags c n m (fun i => (all.drop (48 * i)).take 48) k ++ nought (L - 64 * k)
 | 0, _ => by simp [upto, laid, tags]
 | k + 1, hk => by
   have hf : ∀ i, i < k → ((fun i => (all.drop (48 * i)).take 48) i).length = 48 := fun i hi => by
    simp only [List.length_take, List.length_drop]; omega
   have ht := tags_len (c := c) (n := n) (m := m) k hf
   obtain ⟨e1, e2⟩ := fpOf_at hl hm (k := k) (by omega)
   rw [upto_succ, laid_snoc, laid_tags hl hm hL k (by omega), e1, e2, tags_succ]
   have h1 := patch_app (tags c n m (fun i => (all.drop (48 * i)).take 48) k) (nought (L - 64 * k)) (tagB ⟨c, n, k, m⟩ ((all.drop (48 * k)).take 48))
   have h2 : k * 64 = 64 * k := by omega
   rw [ht, h2] at h1
   rw [h1, tagB_len _ (by simp only [List.length_take, List.length_drop]; omega), nought_drop]
   have h3 : L - 64 * k - 64 = L - 64 * (k + 1) := by omega
   rw [h3]
   simp
set_option maxRecDepth 100000 in
theorem rowB_tags (c n : Nat) (b : List UInt8) : rowB c n b = tags c n (many b.length) (fun i => ((padB b).drop (48 * i)).take 48) (many b.length) ++ nought ((many b.length + 1) / 2 * 128 - 64 * many b.length) := by
 unfold rowB
 rw [laid_tags (padB_len b) (many_pos _) (by omega) _ (Nat.le_refl _)]
set_option maxRecDepth 100000 in
theorem rowB_len (c n : Nat) (b : List UInt8) : (rowB c n b).length = (many b.length + 1) / 2 * 128 := by
 have hp := padB_len b
 rw [rowB_tags, List.length_append, nought_len, tags_len _ (fun i hi => by simp only [List.length_take, List.length_drop]; omega)]
 omega

def secs (l : List UInt8) (N : Nat) : List (List UInt8) := (List.range N).map fun i => (l.drop (128 * i)).take 128
set_option maxRecDepth 100000 in
theorem secs_len (l : List UInt8) (N : Nat) : (secs l N).length = N := by simp [secs]
set_option maxRecDepth 100000 in
theorem secs_at (l : List UInt8) {N i : Nat} (h : i < N) : (secs l N)[i]? = some ((l.drop (128 * i)).take 128) := by
 simp [secs, h]
set_option maxRecDepth 100000 in
theorem hv_secs {l : List UInt8} {N k : Nat} (hk : k / 2 < N) (more : List (List UInt8)) : hv (secs l N ++ more) k = (l.drop (64 * k)).take 64 := by
 unfold hv
 rw [List.getElem?_append_left (by rw [secs_len]; exact hk), secs_at l hk]
 simp only [Option.getD_some]
 rw [List.drop_take, List.drop_drop, List.take_take]
 have e1 : 128 * (k / 2) + 64 * (k % 2) = 64 * k := by omega
 have e2 : min 64 (128 - 64 * (k % 2)) = 64 := by omega
 rw [e1, e2]
set_option maxRecDepth 100000 in
theorem tags_at {c n m : Nat} {f : Nat → List UInt8} {K k : Nat} (hf : ∀ i, i < K → (f i).length = 48) (hk : k < K) (z : List UInt8) : ((tags c n m f K ++ z).drop (64 * k)).take 64 = tagB ⟨c, n, k, m⟩ (f k) := by
 induction K generalizing z with
 | zero => omega
 | succ K ih =>
   rw [tags_succ, List.append_assoc]
   by_cases e : k = K
   · subst e
     have hl := tags_len (c := c) (n := n) (m := m) k (fun i hi => hf i (by omega))
     have h1 : ((tags c n m f k) ++ (tagB ⟨c, n, k, m⟩ (f k) ++ z)).drop (64 * k) = tagB ⟨c, n, k, m⟩ (f k) ++ z := List.drop_left' (by rw [hl]; omega)
     rw [h1]
     exact List.take_left' (tagB_len _ (hf k (by omega)))
   · exact ih (fun i hi => hf i (by omega)) (by omega) _
set_option maxRecDepth 100000 in
theorem pieces_cat {l : List UInt8} {m : Nat} (hl : l.length = m * 48) : (List.range m).flatMap (fun i => (l.drop (48 * i)).take 48) = l := by
 have h : ∀ k, k ≤ m → (List.range k).flatMap (fun i => (l.drop (48 * i)).take 48) = l.take (48 * k) := fun k => by
  induction k with
  | zero => intro _; simp
  | succ k ih =>
    intro hk
    rw [List.range_succ, List.flatMap_append, ih (by omega)]
    have e : 48 * (k + 1) = 48 * k + 48 := by omega
    rw [e, List.take_add]
    simp
 rw [h m (Nat.le_refl _), List.take_of_length_le (by omega)]

set_option maxRecDepth 100000 in
theorem con_pad {b : List UInt8} (hb : b.length ≤ 32768) : conOf (padB b) = some b := by
 have hl := padB_len b
 have h4 : (padB b).take 4 = be b.length 4 := List.take_left' (be_len _ _)
 have hn : numOf ((padB b).take 4) = b.length := by rw [h4, numOf_be _ _ (by omega)]
 have hd : (padB b).drop 4 = b ++ nought (many b.length * 48 - 4 - b.length) := List.drop_left' (be_len _ _)
 have hmp := many_pos b.length
 unfold conOf
 simp only [hn]
 rw [if_neg, if_pos]
 · rw [hd, List.take_left' rfl]
 · rw [← List.drop_drop, hd, List.drop_left' rfl]
   simp [nought]
 · rintro (q | q | q)
   · rw [q] at hl; simp at hl; omega
   · omega
   · rw [hl] at q; exact q rfl

set_option maxRecDepth 100000 in
theorem secs_in {w : World} {R N : Nat} {t : TypeId} {l : List UInt8} (h : Blk w R t (cellsB l).toArray) (hl : l.length = N * 128) {K : Nat} (hK : K ≤ N) : SecsAt w R 0 (secs l K) := fun i s hi => by
 have hlt : i < K := by
  have := (List.getElem?_eq_some_iff.1 hi).1
  rw [secs_len] at this
  exact this
 rw [secs_at l hlt] at hi
 injection hi with hi
 subst hi
 refine ⟨by rw [List.length_take, List.length_drop]; omega, ?_⟩
 have := h.range (128 * i) 128
 have e : 0 + i * 128 = 128 * i := by omega
 rw [e]
 exact this
end Go.Proofs.YtcnlgbjkjlbmbaaGreat

namespace Go.Proofs.YtcnlgbjkjlbmbaaGreat
open Go.RowKit

set_option maxRecDepth 100000 in
theorem fold_set : ∀ (l : List Value) (k : Nat) (acc : Array Value), k + l.length ≤ acc.size → ((l.zipIdx k).foldl (fun cs (x : Value × Nat) => cs.setIfInBounds (0 + x.2) x.1) acc) = (acc.toList.take k ++ (l ++ acc.toList.drop (k + l.length))).toArray
 | [], k, acc, _ => by simp
 | x :: l, k, acc, h => by
   simp only [List.length_cons] at h
   rw [List.zipIdx_cons, List.foldl_cons, fold_set l (k + 1) _ (by simp; omega)]
   simp only [Nat.zero_add, Array.toList_setIfInBounds]
   have h1 : k < acc.toList.length := by simp; omega
   have e1 : (acc.toList.set k x).take (k + 1) = acc.toList.take k ++ [x] := by
    rw [List.take_set, List.take_succ_eq_append_getElem h1]
    have h4 : (acc.toList.take k).length = k := by rw [List.length_take]; omega
    rw [List.set_append_right _ _ (by omega), h4, Nat.sub_self]
    rfl
   have e2 : (acc.toList.set k x).drop (k + 1 + l.length) = acc.toList.drop (k + (l.length + 1)) := by
    rw [List.drop_set_of_lt (by omega)]
    congr 1
    omega
   rw [e1, e2]
   simp
set_option maxRecDepth 100000 in
theorem fill_one {cs base : List Value} (h : cs.length = base.length) (K : Nat) (hK : cs.length = K) : Instr.fill (fun i => some (i * K, K)) base.toArray [(0, .agg cs.toArray)] = some cs.toArray := by
 have h1 := fold_set cs 0 base.toArray (by simp [h])
 have h2 : base.drop (0 + cs.length) = [] := List.drop_eq_nil_of_le (by omega)
 rw [List.toList_toArray, h2] at h1
 simp only [Instr.fill, Value.cells, Nat.zero_mul]
 rw [if_neg (by simp; omega)]
 rw [← Array.foldl_toList, Array.toList_zipIdx, List.toList_toArray, h1]
 simp
set_option maxRecDepth 100000 in
theorem slice_of_one {l : List UInt8} (hl : l.length = 128) (w : World) : (Instr.buildSlice 71 1 #[(0, .agg (cellsB l).toArray)]).run Tryz.prog w = .ok (.slice (some ⟨w.heap.size, 0, none⟩) 1 1) (w.alloc (.cells (cellsB l).toArray 83)) := by
 obtain ⟨i0, hi, hz0, hz1, hz2⟩ := info_parts infoSec
 refine run_buildSlice w 71 83 1 _ _ i0 _ Tryz.underlying71 hi hz0 (by rw [hz1]; omega) (by rw [hz1]; omega) ?_
 rw [hz1]
 have hb : ((Array.range (1 * 128)).map ((av (nought 128)).cells[· % (av (nought 128)).cells.size]!)) = (cellsB (nought 128)).toArray := made_bytes (av (nought 128)).cells 128 (1 * 128) rfl (by omega)
 rw [hb]
 exact fill_one (by simp [cellsB_len, hl, nought_len]) 128 (by rw [cellsB_len, hl])
set_option maxRecDepth 100000 in
theorem build_sector (w : World) : (Instr.build 83 #[]).run Tryz.prog w = .ok (av (nought 128)) w := by
 unfold Instr.build
 obtain ⟨i0, hi, hz0, hz1, hz2⟩ := info_parts infoU8
 rw [Sem.run_bind, zeroSector]
 simp [run_underlying Tryz.underlying83, Instr.fill, Value.cells, sizeOf, typeInfo, hi]
end Go.Proofs.YtcnlgbjkjlbmbaaGreat


