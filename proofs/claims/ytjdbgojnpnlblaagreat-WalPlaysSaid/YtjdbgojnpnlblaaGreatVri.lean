/- wal: the records that sectors say. -/
import Derived.Test.YtjdbgojnpnlblaaGreatVrt
namespace Go.Proofs.YtjdbgojnpnlblaaGreat
open Go.RowKit
attribute [local go_sem] Oper.semAt_some

theorem of_any {w : World} {A : Option Addr} {n c : Nat} {b : List UInt8} (hr : Rd w A n b) (hnc : n ≤ c) (hn : n ≤ 4611686018427387904) : Calls Tryz.prog 75 #[.slice A n c] w (OfR w (recOf b)) := by
  have hl := hr.len
  by_cases h : n % 516 = 0 ∧ 1 ≤ n / 516 ∧ n / 516 ≤ 60
  · refine of_ok hr hnc (m := n / 516) (by omega) h.2.1 h.2.2 fun ad e => ?_
    obtain ⟨ad', e', hb⟩ := hr.lt (by omega)
    rw [e] at e'
    injection e' with e'
    subst e'
    exact hb
  · refine (of_bad hr hn h).mono ?_
    rintro e w' ⟨rfl, rfl⟩
    have hno : recOf b = none := by
      unfold recOf
      rw [if_neg]
      rintro ⟨q0, q1, q2, _⟩
      rw [hl] at q0 q1 q2
      exact h ⟨q0, q1, q2⟩
    rw [hno]
    exact ⟨fun _ => rfl, (fun r h => by cases h), Fr.refl _ _⟩
theorem secV_in {w : World} {v : Value} {ss : List (List UInt8)} (h : SecV w v ss) : SecIn w v ss := by
  obtain ⟨A, cap, rfl, h1, h2, h3⟩ := h
  cases ss with
  | nil => exact .inl ⟨rfl, A, cap, rfl⟩
  | cons s ss =>
    obtain ⟨b, off, rfl, hs⟩ := h3 (by simp)
    exact .inr ⟨b, off, cap, rfl, by simp, hs⟩
theorem sizeSecW (W : World) : (sizeOf (Tryz.prog.elem 33)).run Tryz.prog W = .ok 128 W := by
  obtain ⟨i0, hi, hz0, hz1, hz2⟩ := info_parts infoSec
  have e : Tryz.prog.elem 33 = 45 := by kernel_rfl
  rw [e]
  simp [sizeOf, typeInfo, hi, hz1]
theorem secsAt_drop {w : World} {b off : Nat} {ss : List (List UInt8)} (h : SecsAt w b off ss) (n : Nat) : SecsAt w b (off + n * 128) (ss.drop n) := fun i s hi => by
  rw [List.getElem?_drop] at hi
  have := h (n + i) s hi
  have e : off + (n + i) * 128 = off + n * 128 + i * 128 := by omega
  rwa [e] at this
theorem slice_secV {w : World} {A : Option Addr} {n0 cap : Nat} {ss : List (List UInt8)} (h : SecV w (.slice A n0 cap) ss) (n : Nat) (hn : n ≤ ss.length) :
    ∃ A', (∀ W, (Instr.slice 33 (.slice A n0 cap) (some (.int .i64 (n : Int))) none none).run Tryz.prog W = .ok (.slice A' (n0 - n) (cap - n)) W) ∧ SecV w (.slice A' (n0 - n) (cap - n)) (ss.drop n) ∧ ∀ b, (Value.slice A' (n0 - n) (cap - n)).ownBlock = some b → (Value.slice A n0 cap).ownBlock = some b := by
  obtain ⟨A1, cap1, e, h1, h2, h3⟩ := h
  injection e with e1 e0 e2
  subst e1 e2 e0
  refine ⟨if cap = n then A else A.map fun x => x.add (n * 128), fun W => ?_, ?_, fun b hb => ?_⟩
  · rw [run_slice_l W 33 A ss.length cap (by kernel_rfl) .i64 n (by omega) (by omega), sizeSecW]
    simp [Result.andThen, sliced]
  · refine ⟨_, cap - n, by rw [List.length_drop], by rw [List.length_drop]; omega, by omega, fun q => ?_⟩
    rw [List.length_drop] at q
    obtain ⟨b, off, rfl, hs⟩ := h3 (by omega)
    rw [if_neg (by omega)]
    exact ⟨b, off + n * 128, by simp [Addr.add], secsAt_drop hs n⟩
  · cases A with
    | none => split at hb <;> cases hb
    | some ad =>
      split at hb
      · exact hb
      · injection hb with hb
        rw [add_block] at hb
        exact congrArg some hb
theorem join_long {ss : List (List UInt8)} (hs : ∀ s ∈ ss, s.length = 128) {b : List UInt8} (h : joinOf ss = some b) : b.length ≤ 32768 ∧ 1 ≤ needN (b.length : Nat) ∧ needN (b.length : Nat) ≤ ss.length := by
  unfold joinOf at h
  cases ht : togAll ss with
  | none => rw [ht] at h; cases h
  | some l =>
    rw [ht] at h
    have hl : l.length % 48 = 0 ∧ l.length ≤ ss.length * 96 := by
      unfold togAll at ht
      split at ht
      · cases ht
      · split at ht
        · exact togOf_len hs ht
        · cases ht
    have h2 : conOf l = some b := h
    unfold conOf at h2
    simp only at h2
    split at h2
    · cases h2
    · rename_i hc
      split at h2
      · injection h2 with h2
        have hk : numOf (l.take 4) ≤ 32768 ∧ many (numOf (l.take 4)) * 48 = l.length := by
          refine ⟨Nat.le_of_not_lt fun q => hc (.inr (.inl q)), ?_⟩
          exact Classical.byContradiction fun q => hc (.inr (.inr q))
        have hbl : b.length = numOf (l.take 4) := by
          rw [← h2, List.length_take, List.length_drop]
          unfold many at hk
          omega
        rw [hbl]
        unfold needN
        have hm : 1 ≤ many (numOf (l.take 4)) := by unfold many; omega
        rw [if_neg (by omega)]
        simp only [Int.toNat_natCast]
        omega
      · cases h2

/-- The records that sectors say, by a head: each with how many sectors it has. -/
def recsFrom (c s : Nat) : Nat → Nat → List (List UInt8) → List (List Chg × Nat)
  | 0, _, _ => []
  | f + 1, n, ss =>
    match joinOf ss with
    | none => []
    | some b => if (tagAt ss).2 = n ∧ s ≤ (tagAt ss).1 ∧ (tagAt ss).1 ≤ c then
        match recOf b with
        | none => []
        | some r => (r, needN (b.length : Nat)) :: recsFrom c s f (n + 1) (ss.drop (needN (b.length : Nat)))
      else []
def recs (c s : Nat) (ss : List (List UInt8)) : List (List Chg × Nat) := recsFrom c s (ss.length + 1) 0 ss
/-- A record as it is handed on: its slice, what it has, how many sectors. -/
structure Rcd where
  v : Value
  r : List Chg
  k : Nat
abbrev encR (x : Rcd) : Array Value := #[x.v, .int .i64 (x.k : Nat)]
def Rcd.Is (B : Nat) (x : Rcd) (W : World) : Prop := RcV W x.v x.r ∧ ∀ b, x.v.ownBlock = some b → B ≤ b ∧ ∃ cs, Blk W b 120 cs
theorem Rcd.Is.keep {B : Nat} {x : Rcd} {F : Nat → Prop} {A W : World} (h : x.Is B A) (f : Fr F A W) (hF : ∀ b, x.v.ownBlock = some b → ¬ F b) : x.Is B W :=
  ⟨h.1.keep f hF, fun b hb => ⟨(h.2 b hb).1, (h.2 b hb).2.choose, (h.2 b hb).2.choose_spec.keep f (hF b hb)⟩⟩
theorem records_any (w : World) (c s : Nat) (A : Option Addr) (n cap : Nat) : Calls Tryz.prog 39 #[hV c s, .slice A n cap] w fun e w' =>
    e = .returned (.func (.func 73) #[] #[.pointer (some ⟨w.heap.size + 1, 0, none⟩), .pointer (some ⟨w.heap.size, 0, none⟩)]) ∧ w' = (w.alloc (.cells #[.int .u64 (c : Nat), .int .u64 (s : Nat)] 78)).alloc (.cells #[.slice A n cap] 33) := by
  go_enter Tryz.func39, Tryz.ntmps39
  go_wp2_with fail
  go_ret
  exact ⟨by simp, rfl⟩
end Go.Proofs.YtjdbgojnpnlblaaGreat
