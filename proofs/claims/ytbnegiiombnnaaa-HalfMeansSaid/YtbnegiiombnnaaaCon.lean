/- What the pieces of a row bear. -/
import Derived.Test.YtbnegiiombnnaaaHd
namespace Go.Proofs.Ytbnegiiombnnaaa
open Go.RowKit

/-- 's[k:e:e]' of bytes. -/
theorem slice_mid {w : World} {A : Option Addr} {n c : Nat} {l : List UInt8} (hr : Rd w A n l) (hA : A = none → c = 0) (k e : Nat) (hk : k ≤ e) (he : e ≤ n) (hc : n ≤ c) :
    ∃ A', (∀ W, (Instr.slice 25 (.slice A n c) (some (.int .i64 (k : Int))) (some (.int .i64 (e : Int))) (some (.int .i64 (e : Int)))).run Try.prog W = .ok (.slice A' (e - k) (e - k)) W) ∧ Rd w A' (e - k) ((l.drop k).take (e - k)) ∧ (A' = none → e - k = 0) ∧
      (∀ ad', A' = some ad' → ∃ ad, A = some ad ∧ ad'.block = ad.block) := by
  refine ⟨if e = k then A else A.map (·.add k), fun W => ?_, ?_, ?_, ?_⟩
  · have h := run_slice_lhm (P := Try.prog) (w := W) (t := 25) (a := A) (len := n) (cap := c) Try.underlying25 .i64 .i64 .i64 k e e (by omega) (by omega) (by omega) (by omega)
    have hz : (sizeOf (Try.prog.elem 25)).run Try.prog W = .ok 1 W := by go_simp
    rw [h, hz]
    simp [Result.andThen, sliced]
  · by_cases h0 : e = k
    · subst h0
      simp
      exact ⟨by simp, fun h => by omega⟩
    · have h1 := (hr.drop (k := k) (cap := c) (by omega) hc).take (k := e - k) (by omega)
      by_cases h2 : c = k
      · omega
      · rw [if_neg h2] at h1
        rw [if_neg h0]
        exact h1
  · intro h
    split at h
    · omega
    · have := hA (by cases A <;> simp_all)
      omega
  · intro ad' h
    split at h
    · exact ⟨ad', h, rfl⟩
    · cases A with
      | none => cases h
      | some ad => exact ⟨ad, rfl, by simp at h; rw [← h, add_block]⟩

/-- The bytes of the row that has just these pieces; is there one? -/
def conOf (l : List UInt8) : Option (List UInt8) :=
  let k := numOf (l.take 4)
  if l = [] ∨ 32768 < k ∨ many k * 48 ≠ l.length then none
  else if (l.drop (4 + k)).all (· == 0) then some ((l.drop 4).take k) else none
/-- What content answers. -/
def Con (w : World) (A : Option Addr) (o : Option (List UInt8)) (e : Ending) (w' : World) : Prop :=
  (o = none → e = .returned (.tuple #[.slice none 0 0, .bool false])) ∧
    (∀ b, o = some b → ∃ A', e = .returned (.tuple #[.slice A' b.length b.length, .bool true]) ∧ Rd w' A' b.length b ∧ ∀ ad', A' = some ad' → ∃ ad, A = some ad ∧ ad'.block = ad.block) ∧ Fr (fun _ => False) w w'

set_option maxHeartbeats 1000000 in
theorem content_any {w : World} {A : Option Addr} {n c : Nat} {l : List UInt8} (hr : Rd w A n l) (hA : A = none → c = 0) (hnc : n ≤ c) (h48 : l.length % 48 = 0) (hcm : n ≤ 140737488355328) (hlt : ∀ ad, A = some ad → ad.block < w.heap.size) :
    Calls Try.prog 29 #[.slice A n c] w (Con w A (conOf l)) := by
  obtain rfl := hr.len
  by_cases h0 : l.length = 0
  · have e0 : conOf l = none := by
      have : l = [] := List.eq_nil_of_length_eq_zero h0
      simp [conOf, this]
    rw [e0]
    go_enter Try.func29, Try.ntmps29
    go_wp2_with fail
    go_ret2
    exact ⟨fun _ => rfl, (fun b h => by cases h), Fr.refl _ _⟩
  have h1 : 48 ≤ l.length := by omega
  have HB : Hid (BoxR (w.alloc (.cells #[.slice A l.length c] 25)) w.heap.size A l.length c l) := Lib.hid
    ⟨Blk.new w _ _, hr.keep (F := fun _ => False) ((Fr.refl _ w).alloc _) (fun _ _ q => q), hnc, hA, fun ad e => by have := hlt ad e; omega⟩
  obtain ⟨k, hk⟩ : ∃ k, k = numOf (l.take 4) := ⟨_, rfl⟩
  have HC : Hid (conOf l = if l = [] ∨ 32768 < k ∨ many k * 48 ≠ l.length then none else if (l.drop (4 + k)).all (· == 0) then some ((l.drop 4).take k) else none) := Lib.hid (by rw [hk]; rfl)
  have hk4 : k < 4294967296 := by
    have h := numOf_lt (l.take 4)
    have h5 : (l.take 4).length = 4 := by rw [List.length_take]; omega
    rw [h5] at h
    rw [hk]
    exact h
  have HT := Lib.hid (take_is (N := k) (l' := l.drop 4) HB.out 4 (by omega) (by omega) ⟨hk.symm, rfl⟩)
  have HR := Lib.hid (And.intro hr (And.intro hA (And.intro hnc hlt)))
  clear hr hA hnc hlt hk HB
  go_enter Try.func29, Try.ntmps29
  go_wp2_with fail
  refine (taker_any _ _ _ _).mono ?_
  rintro e w1 ⟨rfl, rfl⟩
  go_wp2_with fail
  refine HT.out.mono ?_
  rintro e w1 ⟨rfl, _, hf1⟩
  have HF := Lib.hid (show Fr (fun _ => False) w w1 from ((Fr.refl _ w).alloc _).trans hf1 (fun i hi q => by omega))
  clear hf1 HT
  by_cases hk1 : 32768 < k
  · have e0 : conOf l = none := by rw [HC.out, if_pos (.inr (.inl hk1))]
    rw [e0]
    go_wp2_with fail
    go_ret2
    exact ⟨fun _ => rfl, (fun b h => by cases h), HF.out⟩
  have hm : many k ≤ 1000 := by unfold many; omega
  have HM := Lib.hid fun w => halvesFor_any w k (by omega)
  have HMM : Hid (many k = (51 + k) / 48) := Lib.hid rfl
  generalize many k = m at *
  go_wp2_with fail
  (with_reducible refine (HM.out _).mono ?_)
  rintro e w2 ⟨rfl, rfl⟩
  by_cases hm1 : m * 48 = l.length
  · have hk6 : 4 + k ≤ l.length := by have := HMM.out; omega
    obtain ⟨A', hsl, hrd, hbk⟩ := slice_from (P := Try.prog) (t := 25) Try.underlying25 (fun w => by go_simp) HR.out.1 HR.out.2.2.1 HR.out.2.1 (4 + k) hk6
    obtain ⟨A2, hs2, hr2, hA2, hb2⟩ := slice_mid HR.out.1 HR.out.2.1 4 (4 + k) (by omega) hk6 HR.out.2.2.1
    have e4 : 4 + k - 4 = k := by omega
    rw [e4] at hs2 hr2
    have hcast : ((4 + k : Nat) : Int) = 4 + (k : Int) := by omega
    rw [hcast] at hsl hs2
    have c4 : ((4 : Nat) : Int) = 4 := rfl
    rw [c4] at hs2
    clear c4
    have hr1 := hrd.keep HF.out (fun _ _ q => q)
    have hlen : (l.drop (4 + k)).length = l.length - (4 + k) := List.length_drop
    have HC2 : Hid (conOf l = if (l.drop (4 + k)).all (· == 0) then some ((l.drop 4).take k) else none) := Lib.hid (by
      rw [HC.out, if_neg]
      rintro (q | q | q)
      · rw [q] at h1; simp at h1
      · omega
      · omega)
    have hk2l : ((l.drop 4).take k).length = k := by rw [List.length_take, List.length_drop]; omega
    generalize l.drop (4 + k) = z at *
    generalize (l.drop 4).take k = bb at *
    have HX := Lib.hid (And.intro hr1 (And.intro hlen (And.intro (hr2.keep HF.out (fun _ _ q => q)) (And.intro hb2 (And.intro hm1 hk2l)))))
    clear hrd hr1 hr2 hb2 hA2 hbk hlen hk2l HC
    have hm2 : ((m : Int) * 48 != (l.length : Int)) = false := by simp; omega
    go_wp2_with fail
    go_loopw [32] (fun i wr => ∃ j : Nat, i = .int .i64 j ∧ j ≤ l.length - (4 + k) ∧ (z.take j).all (· == 0) = true ∧ wr = w1) (fun i _ => l.length - (4 + k) - (intOf i).toNat)
    case atStart => exact ⟨0, rfl, Nat.zero_le _, rfl, rfl⟩
    case round =>
      obtain ⟨j, rfl, hj, hall, rfl⟩ := hrel
      have HALL := Lib.hid hall
      clear hall
      by_cases hjlt : j < l.length - (4 + k)
      · obtain ⟨ad, x, hA1, hx, hcell⟩ := HX.out.1.at_ (k := j) hjlt
        subst hA1
        have hi0 : (0 : Int) ≤ (j : Int) := by omega
        have hi1 : (j : Int) < ((l.length - (4 + k) : Nat) : Int) := by omega
        by_cases hx0 : x.toNat = 0
        · go_wp2_with fail
          exact ⟨⟨j + 1, by go_num, hjlt, by rw [take_snoc' hx, List.all_append, HALL.out]; simp; exact UInt8.toNat_inj.1 hx0, trivial⟩, by simp [intOf]; omega⟩
        · have e0 : conOf l = none := by
            rw [HC2.out, if_neg]
            intro q
            have h3 := List.all_eq_true.1 q x (List.mem_of_getElem? hx)
            have h4 : x = 0 := by simpa using h3
            exact hx0 (by rw [h4]; rfl)
          have hx1 : ¬ ((x.toNat : Int) = 0) := by omega
          go_wp2_with fail
          go_ret2
          exact ⟨fun _ => rfl, (fun b h => by rw [e0] at h; cases h), HF.out⟩
      · obtain rfl : j = l.length - (4 + k) := by omega
        have e0 : conOf l = some bb := by
          rw [HC2.out, if_pos]
          have := HALL.out
          rw [← HX.out.2.1, List.take_length] at this
          exact this
        go_wp2_with fail
        go_ret2
        refine ⟨(fun h => by rw [e0] at h; cases h), fun b hb => ?_, HF.out⟩
        rw [e0] at hb
        injection hb with hb
        subst hb
        have hk9 := HX.out.2.2.2.2.2
        subst hk9
        exact ⟨A2, rfl, HX.out.2.2.1, HX.out.2.2.2.1⟩
  · have e0 : conOf l = none := by rw [HC.out, if_pos (.inr (.inr hm1))]
    have hm2 : ((m : Int) * 48 != (l.length : Int)) = true := by simp; omega
    go_wp2_with fail
    go_ret2
    exact ⟨fun _ => rfl, (fun b h => by rw [e0] at h; cases h), HF.out⟩
end Go.Proofs.Ytbnegiiombnnaaa
