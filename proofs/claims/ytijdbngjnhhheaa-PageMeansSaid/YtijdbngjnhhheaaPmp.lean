/- A page made anew: all its slots laid, then the empty ones taken out. It walks no program. -/
import Derived.Test.YtijdbngjnhhheaaPsk
namespace Go.Proofs.Ytijdbngjnhhheaa
open Go.RowKit

theorem want_kind (x : PD) (a : ActP) : (x.want a).kind = x.kind := by
  unfold PD.want
  repeat' split
  all_goals rfl
theorem step_kind (x : PD) (a : ActP) : (x.step a).kind = x.kind := by
  unfold PD.step
  split
  · exact want_kind x a
  · rfl
theorem play_kind (x : PD) (xs : List ActR) : (x.play xs).kind = x.kind := by
  induction xs generalizing x with
  | nil => rfl
  | cons a xs ih =>
    have h : x.play (a :: xs) = (x.step a.a).play xs := rfl
    rw [h, ih, step_kind]
def fu (o : Rec) : Rec := some (o.getD [])
def mids (s : List Rec) (i : Nat) : List Rec := s.take i ++ (s.drop i).map fu
theorem tot_fu : ∀ s : List Rec, tot (s.map fu) = tot s
  | [] => rfl
  | o :: s => by simp [tot, tot_fu s, rl, fu]
theorem firstE_fu : ∀ s : List Rec, firstE (s.map fu) = s.length
  | [] => rfl
  | o :: s => by simp [firstE, fu, firstE_fu s]
theorem take_le (s : List Rec) (i : Nat) : 4 * (s.take i).length + tot (s.take i) ≤ 4 * s.length + tot s := by
  have h1 := tot_take_le s i
  have h2 : (s.take i).length ≤ s.length := by rw [List.length_take]; omega
  omega
theorem full_ok {x : PD} (k : x.Ok) (i : Nat) : (PD.mk x.kind 0 ((x.s.take i).map fu)).Ok := by
  refine ⟨k.k, Nat.zero_le _, ?_, fun b hb => ?_, fun j hj => ?_⟩
  · have := k.sz
    have h1 := take_le x.s i
    simp only [List.length_map, tot_fu]
    omega
  · simp only [List.mem_map] at hb
    obtain ⟨o, ho, he⟩ := hb
    unfold fu at he
    injection he with he
    subst he
    cases o with
    | none => simp
    | some b => exact k.rs b (List.mem_of_mem_take ho)
  · simp only [List.length_map] at hj
    simp only [List.getElem?_map]
    obtain ⟨o, ho⟩ : ∃ o, (x.s.take i)[j]? = some o := ⟨_, List.getElem?_eq_getElem (by omega)⟩
    exact ⟨o.getD [], by rw [ho]; rfl⟩
theorem full_lay {x : PD} {i : Nat} {o : Rec} (h : x.s[i]? = some o) : firstE ((x.s.take i).map fu) = i ∧ (PD.mk x.kind 0 ((x.s.take i).map fu)).lay (o.getD []) = PD.mk x.kind 0 ((x.s.take (i + 1)).map fu) := by
  have hl : (x.s.take i).length = i := by
    have := (List.getElem?_eq_some_iff.1 h).1
    rw [List.length_take]; omega
  have hf : firstE ((x.s.take i).map fu) = i := by rw [firstE_fu, hl]
  refine ⟨hf, ?_⟩
  unfold PD.lay
  simp only
  rw [hf, take_snoc h, List.map_append]
  unfold putS
  rw [if_neg (by rw [List.length_map, hl]; omega)]
  rfl
theorem mids_len (s : List Rec) (i : Nat) : (mids s i).length = s.length := by
  unfold mids
  rw [List.length_append, List.length_map, List.length_take, List.length_drop]
  omega
theorem mids_tot (s : List Rec) (i : Nat) : tot (mids s i) = tot s := by
  unfold mids
  have h := tot_app (s.take i) (s.drop i)
  rw [List.take_append_drop] at h
  rw [tot_app, tot_fu, h]
theorem mids_get {s : List Rec} {i j : Nat} {o : Rec} (h : s[j]? = some o) : (mids s i)[j]? = if j < i then some o else some (fu o) := by
  have hj := (List.getElem?_eq_some_iff.1 h).1
  unfold mids
  by_cases hl : j < i
  · rw [if_pos hl, List.getElem?_append_left (by rw [List.length_take]; omega), List.getElem?_take, if_pos hl, h]
  · rw [if_neg hl, List.getElem?_append_right (by rw [List.length_take]; omega), List.length_take, List.getElem?_map, List.getElem?_drop]
    have e : i + (j - min i s.length) = j := by omega
    rw [e, h]
    rfl
theorem mids_ok {x : PD} (k : x.Ok) (i : Nat) : (PD.mk x.kind 0 (mids x.s i)).Ok := by
  refine ⟨k.k, Nat.zero_le _, ?_, fun b hb => ?_, fun j hj => ?_⟩
  · simp only [mids_len, mids_tot]; exact k.sz
  · unfold mids at hb
    rcases List.mem_append.1 hb with hb | hb
    · exact k.rs b (List.mem_of_mem_take hb)
    · obtain ⟨o, ho, he⟩ := List.mem_map.1 hb
      unfold fu at he
      injection he with he
      subst he
      cases o with
      | none => simp
      | some b => exact k.rs b (List.mem_of_mem_drop ho)
  · simp only [mids_len] at hj
    obtain ⟨b, hb⟩ := k.ls j hj
    simp only
    rw [mids_get hb]
    split
    · exact ⟨b, rfl⟩
    · exact ⟨b, rfl⟩
theorem mids_some {s : List Rec} {i : Nat} {b : List UInt8} (h : s[i]? = some (some b)) : mids s (i + 1) = mids s i := by
  apply List.ext_getElem?
  intro j
  by_cases hj : j < s.length
  · obtain ⟨o, ho⟩ : ∃ o, s[j]? = some o := ⟨_, List.getElem?_eq_getElem hj⟩
    rw [mids_get ho, mids_get ho]
    by_cases e : j = i
    · subst e
      rw [h] at ho
      injection ho with ho
      subst ho
      rw [if_pos (by omega), if_neg (by omega)]
      rfl
    · by_cases e2 : j < i
      · rw [if_pos (by omega), if_pos e2]
      · rw [if_neg (by omega), if_neg e2]
  · rw [List.getElem?_eq_none (by rw [mids_len]; omega), List.getElem?_eq_none (by rw [mids_len]; omega)]
theorem mids_at {s : List Rec} {i : Nat} (h : s[i]? = some none) : (mids s i)[i]? = some (some []) := by
  rw [mids_get h, if_neg (by omega)]
  rfl
theorem mids_drop {x : PD} (k : x.Ok) {i : Nat} (h : x.s[i]? = some none) : (PD.mk x.kind 0 (mids x.s i)).drop i = PD.mk x.kind 0 (mids x.s (i + 1)) := by
  have hi := (List.getElem?_eq_some_iff.1 h).1
  have e : putS (mids x.s i) i none = mids x.s (i + 1) := by
    unfold putS
    rw [if_pos (by rw [mids_len]; omega)]
    apply List.ext_getElem?
    intro j
    by_cases hj : j < x.s.length
    · obtain ⟨o, ho⟩ : ∃ o, x.s[j]? = some o := ⟨_, List.getElem?_eq_getElem hj⟩
      rw [mids_get ho]
      by_cases e : i = j
      · subst e
        rw [List.getElem?_set_self (by rw [mids_len]; omega), if_pos (by omega), ← ho, h]
      · rw [List.getElem?_set_ne e, mids_get ho]
        by_cases e2 : j < i
        · rw [if_pos e2, if_pos (by omega)]
        · rw [if_neg e2, if_neg (by omega)]
    · rw [List.getElem?_eq_none (by rw [List.length_set, mids_len]; omega), List.getElem?_eq_none (by rw [mids_len]; omega)]
  unfold PD.drop
  simp only
  rw [e, trim_self (mids_ok k (i + 1)).ls]
theorem mids_all (s : List Rec) : mids s s.length = s := by simp [mids]
theorem mids_zero (s : List Rec) : mids s 0 = s.map fu := by simp [mids]
end Go.Proofs.Ytijdbngjnhhheaa
