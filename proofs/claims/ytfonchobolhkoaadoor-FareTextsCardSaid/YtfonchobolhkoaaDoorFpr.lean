/- What the calls of fare answer; couponlaw11's known rows, of that. -/
import Derived.Test.YtfonchobolhkoaaDoorFof
import Derived.Lib.ItoaMem
import Derived.Lib.LaidTab
namespace Go.Proofs.YtfonchobolhkoaaDoor
open Go.RowKit

def sumE (zs : List Int) : Nat := if 1000 < zs.length then 3 else if zs.all mayF && mayF (sumI zs) then 0 else 14
def sumR (zs : List Int) : Int := if sumE zs = 0 then sumI zs else 0
def dealE (a : Int) (zs : List Int) : Nat := if 64 < zs.length then 3 else if mayW zs = false then 2 else if 0 ≤ a ∧ a ≤ 1000000000000 then 0 else 14
def dealR (a : Int) (zs : List Int) : List Int := if dealE a zs = 0 then upI (dealL a.toNat (zs.map Int.toNat)) else []
def rateE (a r : Int) : Nat := if 0 ≤ a ∧ a ≤ 1000000000000 then (if 0 ≤ r ∧ r ≤ 10000 then 0 else 5) else 14
def rateR (a r : Int) : Int := if rateE a r = 0 then a * r / 10000 else 0
def takeE (h x : Int) : Nat := if (0 ≤ h ∧ h ≤ 1000000000000) ∧ 0 ≤ x ∧ x ≤ 1000000000000 then 0 else 14
def takeR (h x : Int) : Int × Int := if takeE h x = 0 then (if x ≤ h then (x, h - x) else (h, 0)) else (0, 0)
def textR (n : Int) : List UInt8 := if mayF n then textF n else []
/-- What stands in the library's variables that fare reaches: strconv's powers of ten; bytealg's MaxLen holds a number. It outlasts whatever leaves the old memory as it was. -/
def Vok (w : World) : Prop := ∀ w', Fr (fun _ => False) w w' → Lib.TabIs Tryd.prog w' "internal/strconv.uint64pow10" .u64 Lib.pow10Tab ∧ ∃ m : Int, w'.cell? ⟨3, 0, none⟩ = some (.int .i64 m)
theorem Vok.keep {w w' : World} (h : Vok w) (f : Fr (fun _ => False) w w') : Vok w' := fun w2 f2 => h w2 (f.trans f2 (fun _ _ q => q))
/-- The calls of fare, each by what the chapter says of it. (Each of them has to be proved of the code: FareP is their bundle, no premise of a law that is handed in.) -/
structure FareP : Prop where
  may : ∀ (n : Int) (w : World), Calls Tryd.prog 19 #[.int .i64 n] w fun e w' => e = .returned (.bool (mayF n)) ∧ Fr (fun _ => False) w w'
  sum : ∀ (w : World) (v : Value) (zs : List Int), IntsAt w v zs → zs.length ≤ 100000 → Calls Tryd.prog 18 #[v] w fun e w' => e = .returned (.tuple #[.int .i64 (sumR zs), .int .i64 (sumE zs : Nat)]) ∧ Fr (fun _ => False) w w'
  deal : ∀ (w : World) (a : Int) (v : Value) (zs : List Int), -9223372036854775808 ≤ a → a ≤ 9223372036854775807 → IntsAt w v zs → zs.length ≤ 100000 → Calls Tryd.prog 11 #[.int .i64 a, v] w fun e w' => ∃ v', e = .returned (.tuple #[v', .int .i64 (dealE a zs : Nat)]) ∧ IntsAt w' v' (dealR a zs) ∧ Fr (fun _ => False) w w'
  rate : ∀ (a r : Int) (w : World), Calls Tryd.prog 20 #[.int .i64 a, .int .i64 r] w fun e w' => e = .returned (.tuple #[.int .i64 (rateR a r), .int .i64 (rateE a r : Nat)]) ∧ Fr (fun _ => False) w w'
  take : ∀ (h x : Int) (w : World), Calls Tryd.prog 21 #[.int .i64 h, .int .i64 x] w fun e w' => e = .returned (.tuple #[.int .i64 (takeR h x).1, .int .i64 (takeR h x).2, .int .i64 (takeE h x : Nat)]) ∧ Fr (fun _ => False) w w'
  text : ∀ (n : Int) (w : World), Vok w → -9223372036854775808 ≤ n → n ≤ 9223372036854775807 → Calls Tryd.prog 22 #[.int .i64 n] w fun e w' => ∃ s : ByteArray, e = .returned (.string s) ∧ s.data.toList = textR n ∧ Fr (fun _ => False) w w'
  of_ : ∀ (s : ByteArray) (w : World), Vok w → s.size ≤ 1000 → Calls Tryd.prog 23 #[.string s] w fun e w' => e = .returned (.tuple #[.int .i64 (ofFN s.data.toList), .int .i64 (ofFE s.data.toList : Nat)]) ∧ Fr (fun _ => False) w w'
theorem slice3_i64 (x y z : Int) (w : World) : (Instr.buildSlice 22 3 #[(0, .int .i64 x), (1, .int .i64 y), (2, .int .i64 z)]).run Tryd.prog w = .ok (.slice (some ⟨w.heap.size, 0, none⟩) 3 3) (w.alloc (.cells #[.int .i64 x, .int .i64 y, .int .i64 z] 2)) := by
  obtain ⟨i0, hi, hz0, hz1, hz2⟩ := info_parts infoL64
  refine run_buildSlice w 22 2 3 _ _ i0 _ Tryd.underlying22 hi hz0 (by rw [hz1]; omega) (by rw [hz1]; omega) ?_
  rw [hz1]
  have hb : ((Array.range (3 * 1)).map ((Value.int .i64 0).cells[· % (Value.int .i64 0).cells.size]!)) = #[Value.int .i64 0, Value.int .i64 0, Value.int .i64 0] := by
    apply Array.ext
    · simp
    · intro i h1 h2
      simp at h1
      have h3 : i = 0 ∨ i = 1 ∨ i = 2 := by omega
      rcases h3 with rfl | rfl | rfl <;> simp [Value.cells]
  rw [hb]
  simp [Instr.fill, Value.cells]
theorem ints3 (w : World) (x y z : Int) : IntsAt (w.alloc (.cells #[.int .i64 x, .int .i64 y, .int .i64 z] 2)) (.slice (some ⟨w.heap.size, 0, none⟩) 3 3) [x, y, z] := by
  refine ⟨_, 3, rfl, by simp [maxLen], fun _ => ⟨w.heap.size, 0, rfl, fun i u hi => ?_⟩⟩
  rw [(Blk.new w 2 #[.int .i64 x, .int .i64 y, .int .i64 z]).cell, Nat.zero_add]
  match i, hi with
  | 0, hi => simp at hi; subst hi; rfl
  | 1, hi => simp at hi; subst hi; rfl
  | 2, hi => simp at hi; subst hi; rfl
theorem text_705 {s : ByteArray} (h : s.data.toList = textR (-705)) : s = ⟨#[45, 55, 46, 48, 53]⟩ := by
  have e : textR (-705) = [45, 55, 46, 48, 53] := by
    have e1 : textR (-705) = textF (-705) := by unfold textR; rw [if_pos (by decide)]
    rw [e1]
    unfold textF textN
    rw [if_pos (by decide), show (-705 : Int).natAbs / 100 = 7 from rfl, txt_lt 7 (by omega)]
    decide
  rw [e] at h
  obtain ⟨⟨l⟩⟩ := s
  have h' : l = [45, 55, 46, 48, 53] := h
  rw [h']
set_option maxRecDepth 100000 in
set_option maxHeartbeats 2000000 in
theorem fknown (P : FareP) (w : World) (hvk : Vok w) : Calls Tryd.prog 10 #[] w fun e w' => e = .returned (.bool true) ∧ Fr (fun _ => False) w w' := by
  have hd1 : dealE 100 [1, 1, 1] = 0 ∧ dealR 100 [1, 1, 1] = [34, 33, 33] := by decide
  have hd2 : dealE 10 [3, 3, 1] = 0 ∧ dealR 10 [3, 3, 1] = [4, 4, 2] := by decide
  have h1 := fun W v (hv : IntsAt W v [1, 1, 1]) => P.deal W 100 v [1, 1, 1] (by omega) (by omega) hv (by simp)
  have h2 := fun W v (hv : IntsAt W v [3, 3, 1]) => P.deal W 10 v [3, 3, 1] (by omega) (by omega) hv (by simp)
  simp only [hd1.1, hd1.2] at h1
  simp only [hd2.1, hd2.2] at h2
  have h3 := P.rate 999 333
  rw [show rateR 999 333 = 33 from by decide, show rateE 999 333 = 0 from by decide] at h3
  have h4 := P.take 5 7
  rw [show takeR 5 7 = (5, 0) from by decide, show takeE 5 7 = 0 from by decide] at h4
  have h5 := fun W (fk : Fr (fun _ => False) w W) => P.of_ ⟨#[49, 50, 46, 53, 48]⟩ W (hvk.keep fk) (by decide)
  simp only [show ofFN [49, 50, 46, 53, 48] = 1250 from by decide, show ofFE [49, 50, 46, 53, 48] = 0 from by decide] at h5
  have h6 := fun W (fk : Fr (fun _ => False) w W) => P.text (-705) W (hvk.keep fk) (by omega) (by omega)
  have H1 := Lib.hid h1
  have H2 := Lib.hid h2
  have H3 := Lib.hid h3
  have H4 := Lib.hid h4
  have H5 := Lib.hid h5
  have H6 := Lib.hid h6
  clear h1 h2 h3 h4 h5 h6 hd1 hd2 hvk
  have hs0 := slice3_i64 1 1 1 w
  go_enter Tryd.func10, Tryd.ntmps10
  go_wp2_with fail
  refine (H1.out _ _ (ints3 w 1 1 1)).mono ?_
  rintro e w1 ⟨v1, rfl, hv1, f1⟩
  have HV1 := Lib.hid (And.intro hv1 (((Fr.refl (fun _ => False) w).alloc _).trans f1 (fun _ _ q => q)))
  clear hv1 f1 hs0 H1
  have hs0 := slice3_i64 3 3 1 w1
  go_wp2_with fail
  refine (H2.out _ _ (ints3 w1 3 3 1)).mono ?_
  rintro e w2 ⟨v2, rfl, hv2, f2⟩
  have f12 : Fr (fun _ => False) w1 w2 := ((Fr.refl (fun _ => False) w1).alloc _).trans f2 (fun _ _ q => q)
  have HV2 := Lib.hid (And.intro hv2 (And.intro (HV1.out.1.new0 f12) (HV1.out.2.trans f12 (fun _ _ q => q))))
  clear hv2 f2 f12 hs0 H2 HV1
  go_wp2_with fail
  refine (H3.out _).mono ?_
  rintro e w3 ⟨rfl, f3⟩
  go_wp2_with fail
  refine (H4.out _).mono ?_
  rintro e w4 ⟨rfl, f4⟩
  go_wp2_with fail
  refine (H5.out _ (HV2.out.2.2.trans (f3.trans f4 (fun _ _ q => q)) (fun _ _ q => q))).mono ?_
  rintro e w5 ⟨rfl, f5⟩
  have f25 := (f3.trans f4 (fun _ _ q => q)).trans f5 (fun _ _ q => q)
  have HV3 := Lib.hid (And.intro (HV2.out.1.new0 f25) (And.intro (HV2.out.2.1.new0 f25) (HV2.out.2.2.trans f25 (fun _ _ q => q))))
  clear f3 f4 f5 f25 H3 H4 H5 HV2
  have hs0 := slice3_i64 34 33 33 w5
  go_wp2_with fail
  have fa : Fr (fun _ => False) w5 (w5.alloc (.cells #[.int .i64 34, .int .i64 33, .int .i64 33] 2)) := (Fr.refl _ _).alloc _
  have hsm := lsame_any (HV3.out.2.1.new0 fa) (ints3 w5 34 33 33) (by simp) (by simp)
  rw [show decide (([34, 33, 33] : List Int) = [34, 33, 33]) = true from by decide] at hsm
  refine hsm.mono ?_
  rintro e w6 ⟨rfl, f6⟩
  have f56 := fa.trans f6 (fun _ _ q => q)
  have HV4 := Lib.hid (And.intro (HV3.out.1.new0 f56) (HV3.out.2.2.trans f56 (fun _ _ q => q)))
  clear fa hsm f6 f56 hs0 HV3
  have hs0 := slice3_i64 4 4 2 w6
  go_wp2_with fail
  have fa : Fr (fun _ => False) w6 (w6.alloc (.cells #[.int .i64 4, .int .i64 4, .int .i64 2] 2)) := (Fr.refl _ _).alloc _
  have hsm := lsame_any (HV4.out.1.new0 fa) (ints3 w6 4 4 2) (by simp) (by simp)
  rw [show decide (([4, 4, 2] : List Int) = [4, 4, 2]) = true from by decide] at hsm
  refine hsm.mono ?_
  rintro e w7 ⟨rfl, f7⟩
  have HV5 := Lib.hid (HV4.out.2.trans (fa.trans f7 (fun _ _ q => q)) (fun _ _ q => q))
  clear fa hsm f7 hs0 HV4
  go_wp2_with fail
  refine (H6.out _ HV5.out).mono ?_
  rintro e w8 ⟨s, rfl, hs, f8⟩
  obtain rfl := text_705 hs
  have HV6 := Lib.hid (HV5.out.trans f8 (fun _ _ q => q))
  clear hs f8 HV5 H6
  go_wp2_with fail
  go_ret
  exact ⟨rfl, HV6.out⟩
end Go.Proofs.YtfonchobolhkoaaDoor
