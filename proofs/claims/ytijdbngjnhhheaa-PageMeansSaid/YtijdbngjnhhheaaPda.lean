/- What an act does to a page, and what the program answers. -/
import Derived.Test.YtijdbngjnhhheaaPof
namespace Go.Proofs.Ytijdbngjnhhheaa
open Go.RowKit

/-- An act. -/
structure ActP where
  kd : Int
  sl : Int
  nx : Int
  b : List UInt8
def hasS (s : List Rec) (z : Int) : Bool := decide (0 ≤ z) && isB s z.toNat
def nxOk (z : Int) : Bool := decide (0 ≤ z ∧ z ≤ 2147483647)
/-- What the page shall have, if it may. -/
def PD.want (x : PD) (a : ActP) : PD :=
  if a.kd = 1 then x.lay a.b
  else if a.kd = 2 then (if hasS x.s a.sl = true then x.put a.sl.toNat a.b else x)
  else if a.kd = 3 then (if hasS x.s a.sl = true then x.drop a.sl.toNat else x)
  else if a.kd = 4 then (if nxOk a.nx = true then x.link a.nx.toNat else x)
  else x
/-- The error that the chapter asks for, ahead of the sizes. -/
def no0 (x : PD) (a : ActP) : Int :=
  if a.kd = 2 ∨ a.kd = 3 then (if hasS x.s a.sl = true then 0 else 6)
  else if a.kd = 4 then (if nxOk a.nx = true then 0 else 2)
  else 0
def no1 (x : PD) (a : ActP) : Int := if a.kd ≤ 2 ∧ 400 < a.b.length then 3 else no0 x a
def noOf (x : PD) (a : ActP) : Int := if no1 x a = 0 ∧ 512 < (x.want a).size then 8 else no1 x a
/-- The page behind an act. -/
def PD.step (x : PD) (a : ActP) : PD := if noOf x a = 0 then x.want a else x
set_option maxRecDepth 100000 in
theorem has_some {s : List Rec} {z : Int} (h : hasS s z = true) : ∃ (i : Nat) (o : List UInt8), z = (i : Int) ∧ s[i]? = some (some o) := by
  unfold hasS at h
  rw [Bool.and_eq_true, decide_eq_true_eq] at h
  obtain ⟨b, hb⟩ := isB_iff.1 h.2
  exact ⟨z.toNat, b, by omega, hb⟩
set_option maxRecDepth 100000 in
theorem has_find {x : PD} (k : x.Ok) {z : Int} (h : hasS x.s z = false) (w : World) (P : Nat) (hP : PW w P x) : Calls Try.prog 34 #[.pointer (some ⟨P, 0, none⟩), .int .i64 z] w fun e w' => e = .returned (.tuple #[.slice none 0 0, .int .i64 6]) ∧ Fr (fun _ => False) w w' := by
  by_cases hz : z < 0 ∨ (x.s.length : Int) ≤ z
  · exact find_out hP k hz
  · obtain ⟨i, rfl⟩ : ∃ i : Nat, z = (i : Int) := ⟨z.toNat, by omega⟩
    obtain ⟨o, ho⟩ : ∃ o, x.s[i]? = some o := ⟨_, List.getElem?_eq_getElem (by omega)⟩
    cases o with
    | none => exact find_none hP k ho
    | some b =>
      unfold hasS at h
      rw [Int.toNat_natCast, isB_iff.2 ⟨b, ho⟩] at h
      simp at h
set_option maxRecDepth 100000 in
theorem step_ok {x : PD} (k : x.Ok) (a : ActP) : (x.step a).Ok := by
  unfold PD.step
  by_cases h : noOf x a = 0
  · rw [if_pos h]
    have hsz : (x.want a).size ≤ 512 := by
      unfold noOf at h
      by_cases h1 : no1 x a = 0 ∧ 512 < (x.want a).size
      · rw [if_pos h1] at h; omega
      · rw [if_neg h1] at h
        omega
    have hn1 : no1 x a = 0 := by
      unfold noOf at h
      split at h
      · omega
      · exact h
    have hlen : a.kd ≤ 2 → a.b.length ≤ 400 := fun hk => by
      unfold no1 at hn1
      by_cases h2 : a.kd ≤ 2 ∧ 400 < a.b.length
      · rw [if_pos h2] at hn1; omega
      · omega
    unfold PD.want at hsz ⊢
    split
    · next h1 =>
      rw [if_pos h1] at hsz
      exact lay_ok k (hlen (by omega)) hsz
    · next h1 =>
      rw [if_neg h1] at hsz
      split
      · next h2 =>
        rw [if_pos h2] at hsz
        split
        · next h3 =>
          rw [if_pos h3] at hsz
          obtain ⟨i, o, hz, ho⟩ := has_some h3
          rw [hz, Int.toNat_natCast] at hsz ⊢
          exact put_ok k ho (hlen (by omega)) hsz
        · exact k
      · split
        · split
          · next h3 =>
            obtain ⟨i, o, hz, ho⟩ := has_some h3
            rw [hz, Int.toNat_natCast]
            exact drop_ok k ho
          · exact k
        · split
          · split
            · next h3 =>
              unfold nxOk at h3
              rw [decide_eq_true_eq] at h3
              exact link_ok k (by omega)
            · exact k
          · exact k
  · rw [if_neg h]; exact k
set_option maxRecDepth 100000 in
theorem want_bounds {x : PD} (k : x.Ok) (a : ActP) (hb : a.b.length ≤ 700) : (x.want a).s.length ≤ 1000 ∧ tot (x.want a).s ≤ 10000 := by
  have hsz := k.sz
  unfold PD.want
  split
  · have h1 := lay_size k a.b
    unfold PD.size at h1
    split at h1 <;> constructor <;> omega
  · split
    · split
      · next h3 =>
        obtain ⟨i, o, hz, ho⟩ := has_some h3
        rw [hz, Int.toNat_natCast]
        have h1 := put_size ho a.b
        unfold PD.size at h1
        constructor <;> omega
      · constructor <;> omega
    · split
      · split
        · next h3 =>
          obtain ⟨i, o, hz, ho⟩ := has_some h3
          rw [hz, Int.toNat_natCast]
          have h1 := drop_size k ho
          unfold PD.size at h1
          constructor <;> omega
        · constructor <;> omega
      · split
        · split
          · exact ⟨by show x.s.length ≤ 1000; omega, by show tot x.s ≤ 10000; omega⟩
          · constructor <;> omega
        · constructor <;> omega
/-- What the program answers to an act. -/
structure Out (x : PD) (a : ActP) (Lo : List UInt8) (s10 e9 : Int) : Prop where
  len : Lo.length = 512
  e : e9 = noOf x a
  bad : e9 ≠ 0 → Lo = nought 512 ∧ s10 = 0
  good : e9 = 0 → Lo = (x.step a).bytes ∧ (a.kd = 1 → s10 = firstE x.s)
set_option maxRecDepth 100000 in
theorem out_bad {x : PD} {a : ActP} {e9 : Int} (h : e9 = noOf x a) (h0 : e9 ≠ 0) : Out x a (nought 512) 0 e9 := ⟨nought_len _, h, fun _ => ⟨rfl, rfl⟩, fun e => absurd e h0⟩
set_option maxRecDepth 100000 in
theorem out_good {x : PD} (k : x.Ok) {a : ActP} {s10 : Int} (h : noOf x a = 0) (hs : a.kd = 1 → s10 = firstE x.s) : Out x a (x.want a).bytes s10 0 := by
  have hs1 : x.step a = x.want a := by unfold PD.step; rw [if_pos h]
  exact ⟨by rw [← hs1]; exact (step_ok k a).len, h.symm, fun e => absurd rfl e, fun _ => ⟨by rw [hs1], hs⟩⟩
set_option maxRecDepth 100000 in
theorem lay_all {x : PD} (k : x.Ok) {a : ActP} (h1 : a.kd = 1) : ∃ Lo s10 e9, Out x a Lo s10 e9 ∧ ∀ W A n c, n = a.b.length → Rd W A n a.b → Calls Try.prog 16 #[av x.bytes, .slice A n c] W fun e w' => e = .returned (.tuple #[av Lo, .int .i64 s10, .int .i64 e9]) ∧ Fr (fun _ => False) W w' := by
  have hw : x.want a = x.lay a.b := by unfold PD.want; rw [if_pos h1]
  have hn0 : no0 x a = 0 := by unfold no0; rw [if_neg (by omega), if_neg (by omega)]
  by_cases hl : 400 < a.b.length
  · have hn : noOf x a = 3 := by
      unfold noOf no1
      rw [if_pos (c := a.kd ≤ 2 ∧ 400 < a.b.length) ⟨by omega, hl⟩]
      rfl
    exact ⟨_, _, _, out_bad (e9 := 3) hn.symm (by omega), fun W A n c hnn hr => lay_long k (by omega)⟩
  · have hn1 : no1 x a = 0 := by unfold no1; rw [if_neg (by omega), hn0]
    by_cases hs : 512 < (x.lay a.b).size
    · have hn : noOf x a = 8 := by unfold noOf; rw [if_pos ⟨hn1, by rw [hw]; exact hs⟩]
      refine ⟨_, _, _, out_bad (e9 := 8) hn.symm (by omega), fun W A n c hnn hr => lay_full k (by omega) ?_⟩
      have := lay_fits k a.b
      subst hnn
      omega
    · have hn : noOf x a = 0 := by unfold noOf; rw [if_neg (by rw [hw]; omega), hn1]
      have ho := out_good k (s10 := (firstE x.s : Int)) hn (fun _ => rfl)
      rw [hw] at ho
      exact ⟨_, _, _, ho, fun W A n c hnn hr => by subst hnn; exact lay_any k hr (by omega) (by omega)⟩
set_option maxRecDepth 100000 in
theorem put_all {x : PD} (k : x.Ok) {a : ActP} (h1 : a.kd = 2) : ∃ Lo e9, Out x a Lo 0 e9 ∧ ∀ W A n c, n = a.b.length → Rd W A n a.b → Calls Try.prog 45 #[av x.bytes, .int .i64 a.sl, .slice A n c] W fun e w' => e = .returned (.tuple #[av Lo, .int .i64 e9]) ∧ Fr (fun _ => False) W w' := by
  by_cases hh : hasS x.s a.sl = true
  · have hw : x.want a = x.put a.sl.toNat a.b := by unfold PD.want; rw [if_neg (by omega), if_pos h1, if_pos hh]
    have hn0 : no0 x a = 0 := by unfold no0; rw [if_pos (.inl h1), if_pos hh]
    obtain ⟨i, o, hz, ho⟩ := has_some hh
    rw [hz, Int.toNat_natCast] at hw
    by_cases hl : 400 < a.b.length
    · have hn : noOf x a = 3 := by
        unfold noOf no1
        rw [if_pos (c := a.kd ≤ 2 ∧ 400 < a.b.length) ⟨by omega, hl⟩]
        rfl
      refine ⟨_, _, out_bad (e9 := 3) hn.symm (by omega), fun W A n c hnn hr => put_long0 (by omega) fun w P hP => ?_⟩
      rw [hz]
      exact ⟨_, find_some hP k ho⟩
    · have hn1 : no1 x a = 0 := by unfold no1; rw [if_neg (by omega), hn0]
      by_cases hs : 512 < (x.put i a.b).size
      · have hn : noOf x a = 8 := by unfold noOf; rw [if_pos ⟨hn1, by rw [hw]; exact hs⟩]
        refine ⟨_, _, out_bad (e9 := 8) hn.symm (by omega), fun W A n c hnn hr => ?_⟩
        rw [hz]
        exact put_full k ho hr (by omega) hs
      · have hn : noOf x a = 0 := by unfold noOf; rw [if_neg (by rw [hw]; omega), hn1]
        have hoo := out_good k (s10 := 0) hn (fun e => by omega)
        rw [hw] at hoo
        refine ⟨_, _, hoo, fun W A n c hnn hr => ?_⟩
        rw [hz]
        exact put_any k ho hr (by omega) (by omega)
  · have hf : hasS x.s a.sl = false := by simpa using hh
    have hn0 : no0 x a = 6 := by unfold no0; rw [if_pos (.inl h1), if_neg hh]
    by_cases hl : 400 < a.b.length
    · have hn : noOf x a = 3 := by
        unfold noOf no1
        rw [if_pos (c := a.kd ≤ 2 ∧ 400 < a.b.length) ⟨by omega, hl⟩]
        rfl
      exact ⟨_, _, out_bad (e9 := 3) hn.symm (by omega), fun W A n c hnn hr => put_long6 (by omega) fun w P hP => ⟨_, has_find k hf w P hP⟩⟩
    · have hn1 : no1 x a = 6 := by unfold no1; rw [if_neg (by omega), hn0]
      have hn : noOf x a = 6 := by unfold noOf; rw [hn1]; rfl
      exact ⟨_, _, out_bad (e9 := 6) hn.symm (by omega), fun W A n c hnn hr => put_none6 (by omega) fun w P hP => ⟨_, has_find k hf w P hP⟩⟩
set_option maxRecDepth 100000 in
theorem take_all {x : PD} (k : x.Ok) {a : ActP} (h1 : a.kd = 3) : ∃ Lo e9, Out x a Lo 0 e9 ∧ ∀ W, Calls Try.prog 17 #[av x.bytes, .int .i64 a.sl] W fun e w' => e = .returned (.tuple #[av Lo, .int .i64 e9]) ∧ Fr (fun _ => False) W w' := by
  by_cases hh : hasS x.s a.sl = true
  · have hw : x.want a = x.drop a.sl.toNat := by unfold PD.want; rw [if_neg (by omega), if_neg (by omega), if_pos h1, if_pos hh]
    have hn0 : no0 x a = 0 := by unfold no0; rw [if_pos (.inr h1), if_pos hh]
    obtain ⟨i, o, hz, ho⟩ := has_some hh
    rw [hz, Int.toNat_natCast] at hw
    have hn1 : no1 x a = 0 := by unfold no1; rw [if_neg (by omega), hn0]
    have hn : noOf x a = 0 := by unfold noOf; rw [if_neg (by rw [hw]; have := drop_size k ho; have := k.sz; unfold PD.size at *; omega), hn1]
    have hoo := out_good k (s10 := 0) hn (fun e => by omega)
    rw [hw] at hoo
    refine ⟨_, _, hoo, fun W => ?_⟩
    rw [hz]
    exact take_any k ho
  · have hf : hasS x.s a.sl = false := by simpa using hh
    have hn0 : no0 x a = 6 := by unfold no0; rw [if_pos (.inr h1), if_neg hh]
    have hn1 : no1 x a = 6 := by unfold no1; rw [if_neg (by omega), hn0]
    have hn : noOf x a = 6 := by unfold noOf; rw [hn1]; rfl
    exact ⟨_, _, out_bad (e9 := 6) hn.symm (by omega), fun W => take_none fun w P hP => has_find k hf w P hP⟩
set_option maxRecDepth 100000 in
theorem link_all {x : PD} (k : x.Ok) {a : ActP} (h1 : a.kd = 4) : ∃ Lo e9, Out x a Lo 0 e9 ∧ ∀ W, Calls Try.prog 18 #[av x.bytes, .int .i64 a.nx] W fun e w' => e = .returned (.tuple #[av Lo, .int .i64 e9]) ∧ Fr (fun _ => False) W w' := by
  by_cases hh : nxOk a.nx = true
  · have hw : x.want a = x.link a.nx.toNat := by unfold PD.want; rw [if_neg (by omega), if_neg (by omega), if_neg (by omega), if_pos h1, if_pos hh]
    have hn0 : no0 x a = 0 := by unfold no0; rw [if_neg (by omega), if_pos h1, if_pos hh]
    have hn1 : no1 x a = 0 := by unfold no1; rw [if_neg (by omega), hn0]
    have hsz : (x.link a.nx.toNat).size = x.size := rfl
    have hn : noOf x a = 0 := by unfold noOf; rw [if_neg (by rw [hw, hsz]; have := k.sz; unfold PD.size; omega), hn1]
    have hoo := out_good k (s10 := 0) hn (fun e => by omega)
    rw [hw] at hoo
    unfold nxOk at hh
    rw [decide_eq_true_eq] at hh
    refine ⟨_, _, hoo, fun W => ?_⟩
    have h := link_any (w := W) k (m := a.nx.toNat) (by omega)
    have e : ((a.nx.toNat : Nat) : Int) = a.nx := by omega
    rw [e] at h
    exact h
  · have hn0 : no0 x a = 2 := by unfold no0; rw [if_neg (by omega), if_pos h1, if_neg hh]
    have hn1 : no1 x a = 2 := by unfold no1; rw [if_neg (by omega), hn0]
    have hn : noOf x a = 2 := by unfold noOf; rw [hn1]; rfl
    refine ⟨_, _, out_bad (e9 := 2) hn.symm (by omega), fun W => link_no k ?_⟩
    unfold nxOk at hh
    rw [decide_eq_true_eq] at hh
    omega
end Go.Proofs.Ytijdbngjnhhheaa
