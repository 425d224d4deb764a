/- wal: what the law's known rows need. -/
import Derived.Test.YtjdbgojnpnlblaaGreatVth
namespace Go.Proofs.YtjdbgojnpnlblaaGreat
open Go.RowKit

/-- A disk without a fuse of N sectors: its head's sector, the others. -/
structure KD (d : DS) (N : Nat) (h : List UInt8) (f : Nat → Option (List UInt8)) : Prop where
  fr : d.free
  vs : ∀ j, (d.vs j).length ≤ 2
  ln : d.rd.length = N
  n0 : 0 < N
  hd : d.rd[0]? = some h
  bd : ∀ j, 1 ≤ j → j < N → d.rd[j]? = f j
theorem KD.head {d : DS} {N : Nat} {h : List UInt8} {f : Nat → Option (List UInt8)} (k : KD d N h f) : d.head = h := by
  unfold DS.head
  rw [List.getD_eq_getElem?_getD, k.hd]
  rfl
theorem KD.settle0 {d : DS} {N : Nat} {h x : List UInt8} {f : Nat → Option (List UInt8)} (k : KD d N h f) : d.settles 0 [x] = true ∧ KD (d.settle 0 [x]) N x f := by
  have h1 := settle_free k.fr 0 [x]
  refine ⟨h1.1, h1.2.1, fun j => by rw [h1.2.2.2 j]; exact Nat.zero_le _, by rw [h1.2.2.1, layL_len, k.ln], k.n0, ?_, fun j hj hj2 => ?_⟩
  · rw [h1.2.2.1]
    have := layL_in (l := d.rd) (i := 0) (ss := [x]) (j := 0) (by have := k.ln; have := k.n0; simp; omega) (by simp)
    simpa using this
  · rw [h1.2.2.1, layL_out (by simp; omega)]
    exact k.bd j hj hj2
theorem KD.settle1 {d : DS} {N i : Nat} {h : List UInt8} {f : Nat → Option (List UInt8)} {ss : List (List UInt8)} (k : KD d N h f) (hi : 1 ≤ i) (hl : i + ss.length ≤ N) : d.settles i ss = true ∧ KD (d.settle i ss) N h (fun j => if i ≤ j ∧ j < i + ss.length then ss[j - i]? else f j) := by
  have h1 := settle_free k.fr i ss
  refine ⟨h1.1, h1.2.1, fun j => by rw [h1.2.2.2 j]; exact Nat.zero_le _, by rw [h1.2.2.1, layL_len, k.ln], k.n0, ?_, fun j hj hj2 => ?_⟩
  · rw [h1.2.2.1, layL_out (by omega)]
    exact k.hd
  · rw [h1.2.2.1]
    by_cases hc : i ≤ j ∧ j < i + ss.length
    · rw [if_pos hc]
      have := layL_in (l := d.rd) (i := i) (ss := ss) (j := j - i) (by rw [k.ln]; exact hl) (by omega)
      rwa [show i + (j - i) = j by omega] at this
    · rw [if_neg hc, layL_out (by omega)]
      exact k.bd j hj hj2
theorem KD.new {N : Nat} (hN : 0 < N) : KD (newD N) N (nought 128) (fun _ => some (nought 128)) := by
  refine ⟨⟨rfl, rfl⟩, fun j => Nat.zero_le _, by simp [newD], hN, by simp [newD, hN], fun j _ hj => by simp [newD, hj]⟩
theorem KD.format {d : DS} {N z : Nat} {f : Nat → Option (List UInt8)} (k : KD d N (nought 128) f) (hz : z + 1 ≤ N) : d.formats z = true ∧ KD (d.format z) N (hdS 1 1) (fun j => if 1 ≤ j ∧ j < 1 + z then some (nought 128) else f j) := by
  have hfg : d.forget = d := by
    unfold DS.forget DS.forgetting
    rw [k.head, nought_no_hd]
    rfl
  have h1 := k.settle1 (i := 1) (ss := List.replicate z (nought 128)) (Nat.le_refl _) (by simp; omega)
  have h2 := h1.2.settle0 (x := hdS 1 1)
  unfold DS.formats DS.format
  rw [hfg]
  refine ⟨h2.1, { h2.2 with bd := fun j hj hj2 => ?_ }⟩
  rw [h2.2.bd j hj hj2]
  simp only [List.length_replicate]
  split
  · rename_i hc
    rw [List.getElem?_replicate, if_pos (by omega)]
  · rfl
/-- The sectors that a log of z has for records. -/
theorem KD.body {d : DS} {N z : Nat} {h : List UInt8} {f : Nat → Option (List UInt8)} (k : KD d N h f) (hz : z + 1 ≤ N) {j : Nat} (hj : j < z) : ((d.rd.take (z + 1)).drop 1)[j]? = f (1 + j) := by
  rw [List.getElem?_drop, List.getElem?_take, if_pos (by omega)]
  exact k.bd (1 + j) (by omega) (by omega)
theorem KD.body_len {d : DS} {N z : Nat} {h : List UInt8} {f : Nat → Option (List UInt8)} (k : KD d N h f) (hz : z + 1 ≤ N) : ((d.rd.take (z + 1)).drop 1).length = z := by
  rw [List.length_drop, List.length_take, k.ln]
  omega
/-- One record, and noughts behind it. -/
theorem recs_one {c s c0 : Nat} {r : List Chg} {ss : List (List UInt8)} (hm : mayR r = true) (h5 : ∀ x ∈ r, x.p.length = 512) (ht : mayT c0 ((0 : Nat) : Int) = true) (hs : s ≤ c0) (hc : c0 ≤ c)
    (hin : ∀ j, j < (rowS c0 0 r).length → ss[j]? = (rowS c0 0 r)[j]?) (hmore : ss.length ≤ (rowS c0 0 r).length ∨ ss[(rowS c0 0 r).length]? = some (nought 128)) (hle : (rowS c0 0 r).length ≤ ss.length) : recs c s ss = [(r, (rowS c0 0 r).length)] := by
  have hlb : (bytesR r).length ≤ 32768 := by rw [bytesR_len h5]; have := mayR_len hm; omega
  have hK : needN ((bytesR r).length : Nat) = (many (bytesR r).length + 1) / 2 := by
    unfold needN
    rw [if_neg (by omega), Int.toNat_natCast]
  have hrow : rowS c0 0 r = secs (rowB c0 0 (bytesR r)) ((many (bytesR r).length + 1) / 2) := by unfold rowS; rw [hK]
  have hsp : ss = rowS c0 0 r ++ ss.drop (rowS c0 0 r).length := by
    apply List.ext_getElem?
    intro i
    by_cases hi : i < (rowS c0 0 r).length
    · rw [List.getElem?_append_left hi, hin i hi]
    · rw [List.getElem?_append_right (by omega), List.getElem?_drop]
      congr 1
      omega
  have hj := join_row (c := c0) (n := 0) (b := bytesR r) hlb ht (ss.drop (rowS c0 0 r).length)
  rw [← hrow, ← hsp] at hj
  unfold recs
  rw [recsFrom, hj.2]
  show (if (tagAt ss).2 = 0 ∧ s ≤ (tagAt ss).1 ∧ (tagAt ss).1 ≤ c then _ else _) = _
  rw [hj.1, if_pos ⟨rfl, hs, hc⟩, recOf_bytesR hm h5]
  show (r, needN ((bytesR r).length : Nat)) :: _ = _
  rw [← rowS_len c0 0 r]
  congr 1
  rcases hmore with q | q
  · have he : ss.drop (rowS c0 0 r).length = [] := List.drop_eq_nil_of_le q
    rw [he]
    cases hL : ss.length with
    | zero => rfl
    | succ n => rw [recsFrom, join_nil]
  · exact recs_nought (by rw [List.getElem?_drop, Nat.add_zero]; exact q) _ _
theorem anew_any (w : World) {n : Nat} (h0 : 0 < n) (h1 : n ≤ 8192) : Calls Tryz.prog 7 #[.int .i64 n] w fun e w' =>
    ∃ g P, e = .returned (.tuple #[.pointer (some ⟨g, 0, none⟩), .int .i64 0]) ∧ DAt w' w.heap.size P g (newD n) ∧ Fr (fun _ => False) w w' := by
  refine (new_any w h0 h1).mono ?_
  rintro e w1 ⟨rfl, hd, f1⟩
  obtain ⟨P', hP1, hP2⟩ := DAt.of (w := w) (w' := w1) (P := fun _ => False) (B := w.heap.size) ⟨_, _, _, _, hd.mono (fun i hi => .inr hi)⟩ (Nat.le_refl _) (fun b hb => hb.elim) f1.size
  exact ⟨_, P', rfl, hP1, f1⟩
end Go.Proofs.YtjdbgojnpnlblaaGreat
