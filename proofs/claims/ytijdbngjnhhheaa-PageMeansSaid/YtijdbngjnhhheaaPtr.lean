/- Slots without empty ones at the end; slots changed. It speaks of no program. -/
import Derived.Test.YtijdbngjnhhheaaPth
namespace Go.Proofs.Ytijdbngjnhhheaa
open Go.RowKit

def isB (s : List Rec) (i : Nat) : Bool := match s[i]? with
  | some (some _) => true
  | _ => false
def trimK (s : List Rec) : Nat → Nat
  | 0 => 0
  | k + 1 => if isB s k then k + 1 else trimK s k
def trim (s : List Rec) : List Rec := s.take (trimK s s.length)
theorem trimK_le (s : List Rec) : ∀ k, trimK s k ≤ k
  | 0 => Nat.le_refl _
  | k + 1 => by
    unfold trimK
    split
    · exact Nat.le_refl _
    · exact Nat.le_trans (trimK_le s k) (Nat.le_succ _)
theorem trimK_last (s : List Rec) : ∀ {k j : Nat}, trimK s k = j + 1 → isB s j = true
  | 0, j, h => by simp [trimK] at h
  | k + 1, j, h => by
    unfold trimK at h
    split at h
    · rename_i hb
      have : k = j := by omega
      rw [← this]; exact hb
    · exact trimK_last s h
theorem isB_iff {s : List Rec} {i : Nat} : isB s i = true ↔ ∃ b, s[i]? = some (some b) := by
  unfold isB
  cases h : s[i]? with
  | none => simp
  | some o => cases o <;> simp
theorem tot_le_of {s : List Rec} (k : Nat) : tot (s.take k) ≤ tot s := tot_take_le s k
theorem trim_len (s : List Rec) : (trim s).length = trimK s s.length := by
  have := trimK_le s s.length
  simp [trim]; omega
theorem trim_last (s : List Rec) {i : Nat} (h : (trim s).length = i + 1) : ∃ b, (trim s)[i]? = some (some b) := by
  rw [trim_len] at h
  obtain ⟨b, hb⟩ := isB_iff.1 (trimK_last s h)
  refine ⟨b, ?_⟩
  unfold trim
  rw [h, List.getElem?_take_of_lt (by omega)]
  exact hb
theorem trim_self {s : List Rec} (h : ∀ i, s.length = i + 1 → ∃ b, s[i]? = some (some b)) : trim s = s := by
  unfold trim
  cases hn : s.length with
  | zero =>
    have := List.eq_nil_of_length_eq_zero hn
    subst this; rfl
  | succ n =>
    have hb := isB_iff.2 (h n hn)
    unfold trimK
    rw [if_pos hb, List.take_of_length_le (by omega)]
theorem trim_mem {s : List Rec} {o : Rec} (h : o ∈ trim s) : o ∈ s := List.mem_of_mem_take h
theorem trim_tot (s : List Rec) : tot (trim s) ≤ tot s := tot_take_le s _
theorem trim_le (s : List Rec) : (trim s).length ≤ s.length := by rw [trim_len]; exact trimK_le s _
/-- A page of slots that fit may be. -/
theorem ok_trim {k n : Nat} {s : List Rec} (hk : k ≤ 4) (hn : n ≤ 2147483647) (hs : 12 + 4 * (trim s).length + tot (trim s) ≤ 512) (hr : ∀ b, some b ∈ s → b.length ≤ 400) : (PD.mk k n (trim s)).Ok :=
  ⟨hk, hn, hs, fun b hb => hr b (trim_mem hb), fun i hi => trim_last s hi⟩
/-- A slot is given something else: one of the slots, or a new one. -/
def putS (s : List Rec) (i : Nat) (o : Rec) : List Rec := if i < s.length then s.set i o else s ++ [o]
theorem tot_set : ∀ {s : List Rec} {i : Nat} (o : Rec) {o' : Rec}, s[i]? = some o' → tot (s.set i o) + rl o' = tot s + rl o
  | [], i, o, o', h => by simp at h
  | u :: s, 0, o, o', h => by
    simp at h
    subst h
    simp [tot]; omega
  | u :: s, i + 1, o, o', h => by
    simp at h
    have := tot_set o h
    simp [tot]; omega
theorem putS_get (s : List Rec) {i : Nat} (o : Rec) (hi : i ≤ s.length) (j : Nat) : (putS s i o)[j]? = if j = i then some o else s[j]? := by
  unfold putS
  split
  · rename_i h
    rw [List.getElem?_set]
    by_cases e : j = i
    · subst e; simp [h]
    · rw [if_neg (fun q => e q.symm), if_neg e]
  · rename_i h
    have e : i = s.length := by omega
    subst e
    by_cases e : j = s.length
    · subst e; simp
    · rw [if_neg e, List.getElem?_append]
      split
      · rfl
      · rw [List.getElem?_eq_none (by simp; omega), List.getElem?_eq_none (by omega)]
theorem putS_len (s : List Rec) {i : Nat} (o : Rec) (hi : i ≤ s.length) : (putS s i o).length = max s.length (i + 1) := by
  unfold putS
  split
  · rw [List.length_set]; omega
  · rw [List.length_append]; simp; omega
theorem putS_mem {s : List Rec} {i : Nat} {o u : Rec} (h : u ∈ putS s i o) : u ∈ s ∨ u = o := by
  unfold putS at h
  split at h
  · exact List.mem_or_eq_of_mem_set h
  · simpa using h
theorem putS_last {s : List Rec} {i : Nat} {b : List UInt8} (hi : i ≤ s.length) (h : ∀ i, s.length = i + 1 → ∃ b, s[i]? = some (some b)) : ∀ j, (putS s i (some b)).length = j + 1 → ∃ c, (putS s i (some b))[j]? = some (some c) := fun j hj => by
  rw [putS_get s (some b) hi j]
  rw [putS_len s (some b) hi] at hj
  by_cases e : j = i
  · rw [if_pos e]; exact ⟨_, rfl⟩
  · rw [if_neg e]
    exact h j (by omega)
theorem putS_trim {s : List Rec} {i : Nat} {b : List UInt8} (hi : i ≤ s.length) (h : ∀ i, s.length = i + 1 → ∃ b, s[i]? = some (some b)) : trim (putS s i (some b)) = putS s i (some b) := trim_self (putS_last hi h)
end Go.Proofs.Ytijdbngjnhhheaa
