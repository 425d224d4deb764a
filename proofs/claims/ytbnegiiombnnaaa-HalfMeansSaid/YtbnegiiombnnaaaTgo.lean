/- together: its loop. -/
import Derived.Test.YtbnegiiombnnaaaTog
namespace Go.Proofs.Ytbnegiiombnnaaa
open Go.RowKit
attribute [local go_sem] Oper.semAt_some

def hdEq (x y : Hd) : Bool := x.c == y.c && x.n == y.n && x.p == y.p && x.m == y.m
theorem hdEq_iff {x y : Hd} : hdEq x y = true ↔ x = y := by
  cases x; cases y
  simp [hdEq, and_assoc]
theorem nat_beq (a b : Nat) : (a == b) = decide (a = b) := by
  by_cases h : a = b <;> simp [h]
theorem hd_neq (c n p m c' n' p' m' : Nat) (w : World) : (binOp .neq 64 (.agg #[.int .u64 (c : Nat), .int .i64 (n : Nat), .int .i64 (p : Nat), .int .i64 (m : Nat)]) (.agg #[.int .u64 (c' : Nat), .int .i64 (n' : Nat), .int .i64 (p' : Nat), .int .i64 (m' : Nat)])).run Try.prog w = .ok (.bool (!hdEq ⟨c, n, p, m⟩ ⟨c', n', p', m'⟩)) w := by
  go_simp
  unfold hdEq
  by_cases h1 : c = c' <;> by_cases h2 : n = n' <;> by_cases h3 : p = p' <;> by_cases h4 : m = m' <;> simp [h1, h2, h3, h4, Int.natCast_inj, nat_beq]
theorem halves_any (w : World) (A : Option Addr) (n c : Nat) : Calls Try.prog 37 #[.slice A n c] w fun e w' => e = .returned (.func (.func 40) #[] #[.pointer (some ⟨w.heap.size, 0, none⟩)]) ∧ w' = w.alloc (.cells #[.slice A n c] 27) := by
  go_enter Try.func37, Try.ntmps37
  go_wp2_with fail
  go_ret
  exact ⟨rfl, rfl⟩

/-- The pieces of halves that came. -/
def pcs {N : Nat} (pre : List (Pl N 64)) : List UInt8 := pre.flatMap fun x => x.1.2.drop 16
theorem pcs_len {N : Nat} (pre : List (Pl N 64)) : (pcs pre).length = pre.length * 48 := by
  unfold pcs
  induction pre with
  | nil => simp
  | cons y r ih =>
    have := y.2.2
    simp only [List.flatMap_cons, List.length_append, List.length_drop, List.length_cons]
    omega
/-- The halves that came are a row's, and none is its last one. -/
def Good {N : Nat} (c n m : Nat) (pre : List (Pl N 64)) : Prop := ∀ x ∈ pre, hdOf x.1.2 = ⟨c, n, x.1.1, m⟩ ∧ x.1.1 + 1 ≠ m

/-- The pieces of the row that sectors' halves begin with (of tags that may be). -/
def togOf (ss : List (List UInt8)) : Option (List UInt8) :=
  let x := hdOf (hv ss 0)
  if 1 ≤ x.m ∧ x.m ≤ 2 * ss.length ∧ (List.range x.m).all (fun k => hdEq (hdOf (hv ss k)) ⟨x.c, x.n, k, x.m⟩) = true then some ((List.range x.m).flatMap fun k => (hv ss k).drop 16) else none

theorem pcs_upto {ss : List (List UInt8)} (hs : ∀ s ∈ ss, s.length = 128) (h0 : 0 < 2 * ss.length) : ∀ k, k ≤ 2 * ss.length → pcs (upto (fhOf ss hs h0) k) = (List.range k).flatMap fun k => (hv ss k).drop 16
  | 0, _ => rfl
  | k + 1, hk => by
    have ih := pcs_upto hs h0 k (by omega)
    unfold pcs at ih ⊢
    rw [upto_succ, List.flatMap_append, ih, List.range_succ, List.flatMap_append]
    simp [(fhOf_at hs h0 (k := k) (by omega)).2]
theorem mem_upto {α : Type} {f : Nat → α} {k j : Nat} (h : j < k) : f j ∈ upto f k := by
  unfold upto
  exact List.mem_map.2 ⟨j, List.mem_range.2 h, rfl⟩

/-- All halves have come, none was the last one. -/
theorem tog_done {ss : List (List UInt8)} (hs : ∀ s ∈ ss, s.length = 128) (h0 : 0 < 2 * ss.length) {c n p m : Nat} (hx : hdOf (hv ss 0) = ⟨c, n, p, m⟩) (hg : Good c n m (upto (fhOf ss hs h0) (2 * ss.length))) : togOf ss = none := by
  unfold togOf
  rw [hx]
  rw [if_neg]
  rintro ⟨h1, h2, _⟩
  simp only at h1 h2
  have h3 := (hg _ (mem_upto (f := fhOf ss hs h0) (show m - 1 < 2 * ss.length by omega))).2
  rw [(fhOf_at hs h0 (by omega)).1] at h3
  omega
/-- A half came that is another one's. -/
theorem tog_break {ss : List (List UInt8)} (hs : ∀ s ∈ ss, s.length = 128) (h0 : 0 < 2 * ss.length) {c n p m k : Nat} (hx : hdOf (hv ss 0) = ⟨c, n, p, m⟩) (hk : k < 2 * ss.length) (hg : Good c n m (upto (fhOf ss hs h0) k)) (hb : hdOf (hv ss k) ≠ ⟨c, n, k, m⟩) : togOf ss = none := by
  unfold togOf
  rw [hx]
  rw [if_neg]
  rintro ⟨h1, h2, h3⟩
  simp only at h1 h2 h3
  rcases Nat.lt_or_ge k m with h4 | h4
  · have := List.all_eq_true.1 h3 k (List.mem_range.2 h4)
    exact hb (hdEq_iff.1 this)
  · have h5 := (hg _ (mem_upto (f := fhOf ss hs h0) (show m - 1 < k by omega))).2
    rw [(fhOf_at hs h0 (by omega)).1] at h5
    omega
/-- The last half came. -/
theorem tog_last {ss : List (List UInt8)} (hs : ∀ s ∈ ss, s.length = 128) (h0 : 0 < 2 * ss.length) {c n p m k : Nat} (hx : hdOf (hv ss 0) = ⟨c, n, p, m⟩) (hk : k < 2 * ss.length) (hg : Good c n m (upto (fhOf ss hs h0) k)) (hb : hdOf (hv ss k) = ⟨c, n, k, m⟩) (hm : k + 1 = m) :
    togOf ss = some (pcs (upto (fhOf ss hs h0) (k + 1))) := by
  unfold togOf
  rw [hx]
  rw [if_pos]
  · rw [pcs_upto hs h0 (k + 1) (by omega), hm]
  · simp only
    refine ⟨by omega, by omega, List.all_eq_true.2 fun j hj => ?_⟩
    have hj' := List.mem_range.1 hj
    refine hdEq_iff.2 ?_
    by_cases e : j = k
    · subst e; exact hb
    · have h5 := (hg _ (mem_upto (f := fhOf ss hs h0) (show j < k by omega))).1
      obtain ⟨e1, e2⟩ := fhOf_at hs h0 (k := j) (by omega)
      rw [e1, e2] at h5
      exact h5
end Go.Proofs.Ytbnegiiombnnaaa
