/- The law HalfMeans, of no row; picks that came in. -/
import Derived.Test.YtbnegiiombnnaaaLmea
import Derived.Test.YtbnegiiombnnaaaRse2
namespace Go.Proofs.Ytbnegiiombnnaaa
open Go.ChangeShapes Go.WideShapes Go.ChangeAt Go.RowKit

set_option maxRecDepth 100000 in
set_option maxHeartbeats 4000000 in
theorem mixed_nil (w : World) (A : Option Addr) (cap : Nat) (Ap : Option Addr) (np cp : Nat) : Calls Try.prog 21 #[.slice A 0 cap, .slice Ap np cp] w fun e w' => ∃ v, e = .returned v ∧ SecV w' v [] ∧ Fr (fun _ => False) w w' := by
  have HS := Lib.hid (rsectors_any (Lst.nil w 0) (fun l hl => by cases hl) (by simp))
  go_enter Try.func21, Try.ntmps21
  go_wp2_with fail
  go_loop [5, 6, 7, 8] (fun s m i _ => s = .slice none 0 0 ∧ m = .int .i64 0 ∧ i = .int .i64 0) (fun _ _ _ _ => 0)
  case atStart => exact ⟨rfl, rfl, rfl⟩
  case round =>
    obtain ⟨rfl, rfl, rfl⟩ := hrel
    go_wp2_with fail
    go_loop [9, 10, 11] (fun s i _ => s = .slice none 0 0 ∧ i = .int .i64 0) (fun _ _ _ => 0)
    case atStart => exact ⟨rfl, rfl⟩
    case round =>
      obtain ⟨rfl, rfl⟩ := hrel
      go_wp2_with fail
      (with_reducible refine HS.out.mono ?_)
      rintro e w3 ⟨v3, rfl, ho3, hf3⟩
      have hsv : SecV w3 v3 [] := by
        have h0 : (([] : List (List UInt8)).length + 1) / 2 = 0 := rfl
        rw [h0] at ho3
        exact secV_own1 ho3 rfl
      have HSV := Lib.hid (And.intro hsv hf3)
      clear hsv ho3 hf3 HS
      go_wp2_with fail
      go_ret
      exact ⟨v3, rfl, HSV.out.1, HSV.out.2⟩

set_option maxRecDepth 100000 in
set_option maxHeartbeats 4000000 in
theorem means_nil (w : World) (A : Option Addr) (cap : Nat) (Ap : Option Addr) (np cp : Nat) (Ab : Option Addr) (nb cb : Nat) (hb : nb ≤ 9223372036854775807) : Calls Try.prog 5 #[.slice A 0 cap, .slice Ap np cp, .slice Ab nb cb] w fun e w' => e = .returned (.bool true) ∧ Fr (fun _ => False) w w' := by
  by_cases hbig : 20 < nb
  · have hd : decide ((20 : Int) < (nb : Int)) = true := by rw [decide_eq_true_eq]; omega
    clear hbig
    go_enter Try.func5, Try.ntmps5
    go_wp2_with fail
    refine (rows_nil _ _ _).mono ?_
    rintro e w1 ⟨rfl, rfl⟩
    go_wp2_with fail
    refine (known_any _).mono ?_
    rintro e w2 ⟨rfl, hf2⟩
    go_wp2_with fail
    go_ret
    exact ⟨rfl, hf2⟩
  · have hd : decide ((20 : Int) < (nb : Int)) = false := by rw [decide_eq_false_iff_not]; omega
    clear hbig
    go_enter Try.func5, Try.ntmps5
    go_wp2_with fail
    refine (rows_nil _ _ _).mono ?_
    rintro e w1 ⟨rfl, rfl⟩
    go_wp2_with fail
    go_loop [7, 8, 9, 10, 11, 12, 13] (fun i _ _ _ _ _ _ => i = .int .i64 0) (fun _ _ _ _ _ _ _ => 0)
    case atStart => rfl
    case round =>
      subst hrel
      go_wp2_with fail
      refine (mixed_nil _ _ _ _ _ _).mono ?_
      rintro e w3 ⟨v3, rfl, hs3, hf3⟩
      have HJ := Lib.hid (join_any hs3.in_ (by simp))
      have HF3 := Lib.hid hf3
      obtain ⟨A3, c3, hv3, _, _⟩ := hs3
      subst hv3
      have e0 : ([] : List (List UInt8)).length = 0 := rfl
      rw [e0] at HJ ⊢
      clear hf3 e0
      go_wp2_with fail
      (with_reducible refine HJ.out.mono ?_)
      rintro e w4 ⟨j1, j2, hf4⟩
      obtain rfl := j1 rfl
      have HF5 := Lib.hid ((HF3.out.trans hf4 (fun _ _ q => q)).alloc (.cells #[.int .u64 0, .int .i64 0] 24))
      clear j1 j2 hf4 HJ
      go_wp2_with fail
      refine (known_any _).mono ?_
      rintro e w6 ⟨rfl, hf6⟩
      have HF6 := Lib.hid (HF5.out.trans hf6 (fun _ _ q => q))
      clear hf6
      go_wp2_with fail
      go_ret
      exact ⟨rfl, HF6.out⟩

/-- Picks that came in. -/
theorem open_picks {H : Type} {enc : TypeId × Value → H} {w : World} {v : Value} {d : DataW H} {p : List MemPlace} (hval : ∃ a len cap, v = .slice a len cap) (h : DataW.Trod enc Try.prog w 0 (fun _ => true) true 47 v d p) : ∃ picks, PicksAt w v picks := by
  obtain ⟨a0, len0, cap0, rfl⟩ := hval
  obtain ⟨fuel, hf⟩ := h
  rcases open_ints Try.underlying47 Try.underlying3 cells3 hf with ⟨hcs, _⟩ | ⟨a, len, cap, zs, hcs, _, hl, hc, hz, _, hcell, hwf⟩
  · simp [Value.cells] at hcs
    obtain ⟨rfl, rfl, rfl⟩ := hcs
    exact ⟨[], none, 0, rfl, Nat.zero_le _, fun q => by simp at q⟩
  · simp [Value.cells] at hcs
    obtain ⟨rfl, rfl, rfl⟩ := hcs
    simp only [if_true] at hz
    have hlt : (zs.take len0).length = len0 := by rw [List.length_take]; omega
    refine ⟨zs.take len0, some a, cap0, by rw [hlt], by rw [hlt]; omega, fun q => ?_⟩
    rw [hlt] at q
    have h0 := hcell 0 (by omega)
    have e0 : a.add 0 = a := by simp [Addr.add]
    rw [e0] at h0
    have hpl := plain_addr (a := a) h0
    obtain ⟨b, off, sp⟩ := a
    obtain rfl : sp = none := by injection hpl
    refine ⟨b, off, rfl, fun i z hi => ?_⟩
    rw [List.getElem?_take] at hi
    split at hi
    · rename_i hil
      have h1 := hcell i (by omega)
      rw [add_plain] at h1
      have hzz : zs.getD i 0 = z := by rw [List.getD_eq_getElem?_getD, hi]; rfl
      rw [hzz] at h1
      exact ⟨h1, i64_of_wf (hwf z (List.mem_of_getElem? hi))⟩
    · cases hi
end Go.Proofs.Ytbnegiiombnnaaa
