/- wal: the theory of a disk without a fuse, of heads, of records. -/
import Derived.Test.YtjdbgojnpnlblaaGreatVsl
namespace Go.Proofs.YtjdbgojnpnlblaaGreat
open Go.RowKit

/-- A disk that has no fuse and does not die. -/
def DS.free (d : DS) : Prop := d.fu = false ∧ d.dd = false
theorem free_alive {d : DS} (h : d.free) : d.alive = true := by simp [DS.alive, deadS, h.1, h.2]
def layL : List (List UInt8) → Nat → List (List UInt8) → List (List UInt8)
  | l, _, [] => l
  | l, i, s :: ss => layL (l.set i s) (i + 1) ss
theorem write_free {d : DS} (h : d.free) (i : Nat) (s : List UInt8) : (d.write i s).free ∧ (d.write i s).rd = d.rd.set i s := by
  unfold DS.write
  rw [if_pos (free_alive h)]
  refine ⟨⟨h.1, ?_⟩, rfl⟩
  show deadS d.fu d.lf d.dd = false
  simp [deadS, h.1, h.2]
theorem lay_free {d : DS} (h : d.free) (i : Nat) (ss : List (List UInt8)) : (d.lay i ss).free ∧ (d.lay i ss).rd = layL d.rd i ss := by
  induction ss generalizing d i with
  | nil => exact ⟨h, rfl⟩
  | cons s ss ih =>
    have h1 := write_free h i s
    have h2 := ih h1.1 (i + 1)
    exact ⟨h2.1, by have q := h2.2; rw [h1.2] at q; exact q⟩
theorem settle_free {d : DS} (h : d.free) (i : Nat) (ss : List (List UInt8)) : d.settles i ss = true ∧ (d.settle i ss).free ∧ (d.settle i ss).rd = layL d.rd i ss ∧ ∀ j, (d.settle i ss).vs j = [] := by
  have h1 := lay_free h i ss
  refine ⟨free_alive h1.1, ?_⟩
  unfold DS.settle DS.flushed
  rw [if_pos (free_alive h1.1)]
  refine ⟨⟨h1.1.1, ?_⟩, h1.2, fun j => rfl⟩
  show deadS (d.lay i ss).fu (d.lay i ss).lf (d.lay i ss).dd = false
  simp [deadS, h1.1.1, h1.1.2]
theorem layL_len (l : List (List UInt8)) (i : Nat) (ss : List (List UInt8)) : (layL l i ss).length = l.length := by
  induction ss generalizing l i with
  | nil => rfl
  | cons s ss ih => exact (ih _ _).trans List.length_set
theorem layL_out {l : List (List UInt8)} {i : Nat} {ss : List (List UInt8)} {j : Nat} (h : j < i ∨ i + ss.length ≤ j) : (layL l i ss)[j]? = l[j]? := by
  induction ss generalizing l i with
  | nil => rfl
  | cons s ss ih =>
    simp at h
    show (layL (l.set i s) (i + 1) ss)[j]? = _
    rw [ih (by omega), List.getElem?_set_ne (by omega)]
theorem layL_in {l : List (List UInt8)} {i : Nat} {ss : List (List UInt8)} {j : Nat} (hl : i + ss.length ≤ l.length) (hj : j < ss.length) : (layL l i ss)[i + j]? = ss[j]? := by
  induction ss generalizing l i j with
  | nil => simp at hj
  | cons s ss ih =>
    simp at hl
    cases j with
    | zero =>
      show (layL (l.set i s) (i + 1) ss)[i]? = some s
      rw [layL_out (by omega), List.getElem?_set_self (by omega)]
    | succ j =>
      have := ih (l := l.set i s) (i := i + 1) (j := j) (by rw [List.length_set]; omega) (by simpa using hj)
      rwa [show i + 1 + j = i + (j + 1) by omega] at this
/-- A head's sector. -/
theorem hdS_parts (c s : Nat) : (hdS c s).drop 4 = be c 8 ++ (be s 8 ++ nought 108) ∧ (hdS c s).drop 12 = be s 8 ++ nought 108 := by
  have e : hdS c s = markL ++ (be c 8 ++ (be s 8 ++ nought 108)) := by simp [hdS, hd20]
  refine ⟨by rw [e]; rfl, ?_⟩
  rw [e, show (12 : Nat) = 4 + 8 by rfl, ← List.drop_drop]
  show (be c 8 ++ (be s 8 ++ nought 108)).drop 8 = _
  exact List.drop_left' (be_len _ _)
theorem hdS_nums {c s : Nat} (hc : c ≤ maxC) (hs : s ≤ maxC) : cntOf (hdS c s) = c ∧ sinOf (hdS c s) = s := by
  have h9 : (256 : Nat) ^ 8 = 18446744073709551616 := by decide
  unfold cntOf sinOf
  rw [(hdS_parts c s).1, (hdS_parts c s).2, List.take_left' (be_len _ _), List.take_left' (be_len _ _)]
  unfold maxC at hc hs
  exact ⟨numOf_be c 8 (by omega), numOf_be s 8 (by omega)⟩
theorem hdS_is_hd {c s : Nat} (h1 : 1 ≤ s) (h2 : s ≤ c) (h3 : c ≤ maxC) : isHd (hdS c s) = true := by
  have hn := hdS_nums h3 (Nat.le_trans h2 h3)
  unfold isHd
  rw [hn.1, hn.2]
  have ht : tornOf (hdS c s) (nought 128) = hdS c s := by
    unfold tornOf
    have e : (hdS c s).drop 64 = (nought 128).drop 64 := by
      have e1 : hdS c s = hd20 c s ++ nought 108 := rfl
      rw [e1, show (64 : Nat) = 20 + 44 by rfl, ← List.drop_drop, List.drop_left' (hd20_len _ _)]
      simp [nought]
    rw [← e, List.take_append_drop]
  rw [ht]
  simp
  exact ⟨h1, h2, h3⟩
theorem nought_no_hd : isHd (nought 128) = false := by decide +kernel
/-- Sectors that begin with noughts say no record. -/
theorem join_nought {ss : List (List UInt8)} (h : ss[0]? = some (nought 128)) : joinOf ss = none := by
  have h0 : hv ss 0 = nought 64 := by simp [hv, h, nought]
  have h1 : tagAt ss = (0, 0) := by
    unfold tagAt
    rw [h0, hd_nought]
  have h2 : ss ≠ [] := by intro e; rw [e] at h; simp at h
  unfold joinOf togAll
  rw [if_neg h2, h1]
  rfl
theorem recs_nought {c s : Nat} {ss : List (List UInt8)} (h : ss[0]? = some (nought 128)) (f n : Nat) : recsFrom c s f n ss = [] := by
  cases f with
  | zero => rfl
  | succ f => rw [recsFrom, join_nought h]
theorem bytesR_cons (x : Chg) (r : List Chg) : bytesR (x :: r) = (be x.n.toNat 4 ++ x.p) ++ bytesR r := by simp [bytesR]
theorem bytesR_drop {r : List Chg} (h : ∀ x ∈ r, x.p.length = 512) : ∀ {k : Nat} {x : Chg}, r[k]? = some x → ∃ more, (bytesR r).drop (516 * k) = (be x.n.toNat 4 ++ x.p) ++ more := by
  induction r with
  | nil => intro k x hx; simp at hx
  | cons y r ih =>
    intro k x hx
    cases k with
    | zero =>
      injection hx with hx
      subst hx
      exact ⟨bytesR r, by rw [Nat.mul_zero, List.drop_zero, bytesR_cons]⟩
    | succ k =>
      obtain ⟨more, hm⟩ := ih (fun z hz => h z (by simp [hz])) hx
      refine ⟨more, ?_⟩
      have hl : (be y.n.toNat 4 ++ y.p).length = 516 := by rw [List.length_append, be_len, h y (by simp)]
      rw [bytesR_cons, show 516 * (k + 1) = 516 + 516 * k by omega, ← List.drop_drop, List.drop_left' hl, hm]
theorem recOf_bytesR {r : List Chg} (hm : mayR r = true) (h : ∀ x ∈ r, x.p.length = 512) : recOf (bytesR r) = some r := by
  have hl := bytesR_len h
  have hlen := mayR_len hm
  have hok : ∀ x ∈ r, 0 ≤ x.n ∧ x.n ≤ 2147483647 := fun x hx => by
    unfold mayR at hm
    simp only [Bool.and_eq_true, decide_eq_true_eq, List.all_eq_true] at hm
    have := hm.2.2 x hx
    unfold okN at this
    simpa using this
  have hd : (bytesR r).length / 516 = r.length := by omega
  have h9 : (256 : Nat) ^ 4 = 4294967296 := by decide
  have hnum : ∀ k x, r[k]? = some x → numOf (((bytesR r).drop (516 * k)).take 4) = x.n.toNat := fun k x hx => by
    obtain ⟨more, e⟩ := bytesR_drop h hx
    have := hok x (List.mem_of_getElem? hx)
    rw [e, List.append_assoc, List.take_left' (be_len _ _), numOf_be _ _ (by omega)]
  unfold recOf
  rw [hd, if_pos ⟨by omega, hlen.1, hlen.2, fun k hk => by
    obtain ⟨x, hx⟩ : ∃ x, r[k]? = some x := ⟨_, List.getElem?_eq_getElem hk⟩
    have := hok x (List.mem_of_getElem? hx)
    rw [hnum k x hx]
    omega⟩]
  congr 1
  apply List.ext_getElem?
  intro i
  by_cases hi : i < r.length
  · obtain ⟨x, hx⟩ : ∃ x, r[i]? = some x := ⟨_, List.getElem?_eq_getElem hi⟩
    have hxo := hok x (List.mem_of_getElem? hx)
    obtain ⟨more, e⟩ := bytesR_drop h hx
    have hxl := h x (List.mem_of_getElem? hx)
    rw [hx, List.getElem?_map, List.getElem?_range hi]
    have hp : (((bytesR r).drop (516 * i)).drop 4).take 512 = x.p := by
      rw [e, List.append_assoc, List.drop_left' (be_len _ _), List.take_left' hxl]
    show some (chgOf (bytesR r) i) = some x
    unfold chgOf
    rw [hnum i x hx, hp]
    cases x
    simp only [Option.some.injEq, Chg.mk.injEq, and_true]
    simp at hxo
    omega
  · rw [List.getElem?_eq_none (by simp; omega), List.getElem?_eq_none (by omega)]
end Go.Proofs.YtjdbgojnpnlblaaGreat
