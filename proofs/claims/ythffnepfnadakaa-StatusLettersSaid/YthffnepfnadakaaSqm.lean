/- The calls of the landed status: May, mayNot, onward, Last, Live, Leads. -/
import Derived.Test.YthffnepfnadakaaStm
namespace Go.Proofs.Ythffnepfnadakaa
open Go.RowKit

theorem pmay_any (n : Int) (w : World) : Calls Try.prog 8 #[.int .i64 n] w fun e w' => e = .returned (.bool (mayS n)) ∧ w' = w := by
  by_cases h1 : n ≥ 1
  · by_cases h2 : n ≤ 9
    · have hm : mayS n = true := decide_eq_true ⟨h1, h2⟩
      rw [hm]
      go_enter Try.func8, Try.ntmps8
      go_wp2_with fail
      go_ret
      exact ⟨rfl, rfl⟩
    · have hm : mayS n = false := decide_eq_false (fun q => h2 q.2)
      rw [hm]
      go_enter Try.func8, Try.ntmps8
      go_wp2_with fail
      go_ret
      exact ⟨rfl, rfl⟩
  · have hm : mayS n = false := decide_eq_false (fun q => h1 q.1)
    rw [hm]
    go_enter Try.func8, Try.ntmps8
    go_wp2_with fail
    go_ret
    exact ⟨rfl, rfl⟩
theorem pmayNot_any (n : Int) (w : World) : Calls Try.prog 28 #[.int .i64 n] w fun e w' => e = .returned (.bool (!mayS n)) ∧ w' = w := by
  have HM := Lib.hid (pmay_any n)
  cases hm : mayS n with
  | false =>
    rw [hm] at HM
    clear hm
    go_enter Try.func28, Try.ntmps28
    go_wp2_with fail
    refine (HM.out _).mono ?_
    rintro e w' ⟨rfl, rfl⟩
    go_wp2_with fail
    go_ret
    exact ⟨rfl, rfl⟩
  | true =>
    rw [hm] at HM
    clear hm
    go_enter Try.func28, Try.ntmps28
    go_wp2_with fail
    refine (HM.out _).mono ?_
    rintro e w' ⟨rfl, rfl⟩
    go_wp2_with fail
    go_ret
    exact ⟨rfl, rfl⟩
def bitsN : Nat → Nat
  | 1 => 996
  | 2 => 10
  | 3 => 20
  | 8 => 66
  | 9 => 18
  | _ => 0
def bitsS (a : Int) : Int := if mayS a then (bitsN a.toNat : Nat) else 0
theorem bits_zero : all9 (fun a => (bitsN a == 0) == (nextL a).isEmpty) = true := by decide +kernel
theorem pbits_any (a : Int) (w : World) : Calls Try.prog 25 #[.int .i64 a] w fun e w' => e = .returned (.int .u64 (bitsS a)) ∧ w' = w := by
  by_cases h1 : a = 1
  · subst h1
    rw [show bitsS 1 = 996 from rfl]
    go_enter Try.func25, Try.ntmps25
    go_wp2_with fail
    go_ret
    exact ⟨rfl, rfl⟩
  by_cases h2 : a = 2
  · subst h2
    rw [show bitsS 2 = 10 from rfl]
    go_enter Try.func25, Try.ntmps25
    go_wp2_with fail
    go_ret
    exact ⟨rfl, rfl⟩
  by_cases h3 : a = 3
  · subst h3
    rw [show bitsS 3 = 20 from rfl]
    go_enter Try.func25, Try.ntmps25
    go_wp2_with fail
    go_ret
    exact ⟨rfl, rfl⟩
  by_cases h8 : a = 8
  · subst h8
    rw [show bitsS 8 = 66 from rfl]
    go_enter Try.func25, Try.ntmps25
    go_wp2_with fail
    go_ret
    exact ⟨rfl, rfl⟩
  by_cases h9 : a = 9
  · subst h9
    rw [show bitsS 9 = 18 from rfl]
    go_enter Try.func25, Try.ntmps25
    go_wp2_with fail
    go_ret
    exact ⟨rfl, rfl⟩
  have hb : bitsS a = 0 := by
    unfold bitsS
    split
    · rename_i hm
      have hr : 1 ≤ a ∧ a ≤ 9 := of_decide_eq_true hm
      have : a = 4 ∨ a = 5 ∨ a = 6 ∨ a = 7 := by omega
      rcases this with rfl | rfl | rfl | rfl <;> rfl
    · rfl
  rw [hb]
  have e1 : (a == 1) = false := by simpa using h1
  have e2 : (a == 2) = false := by simpa using h2
  have e3 : (a == 3) = false := by simpa using h3
  have e8 : (a == 8) = false := by simpa using h8
  have e9 : (a == 9) = false := by simpa using h9
  clear h1 h2 h3 h8 h9 hb
  go_enter Try.func25, Try.ntmps25
  go_wp2_with fail
  go_ret
  exact ⟨rfl, rfl⟩
theorem bits_last (a : Int) (hm : mayS a = true) : (bitsS a == 0) = (nextL a.toNat).isEmpty := by
  have hr : 1 ≤ a ∧ a ≤ 9 := of_decide_eq_true hm
  have := all9_of bits_zero (n := a.toNat) (by omega) (by omega)
  rw [beq_iff_eq] at this
  rw [← this]
  unfold bitsS
  rw [if_pos hm, Bool.eq_iff_iff, beq_iff_eq, beq_iff_eq]
  omega
theorem plast_any (a : Int) (w : World) : Calls Try.prog 10 #[.int .i64 a] w fun e w' => e = .returned (.bool (lastS a)) ∧ w' = w := by
  have HM := Lib.hid (pmay_any a)
  have HB := Lib.hid (pbits_any a)
  unfold lastS
  cases hm : mayS a with
  | false =>
    rw [hm] at HM
    rw [Bool.false_and]
    clear hm
    go_enter Try.func10, Try.ntmps10
    go_wp2_with fail
    refine (HM.out _).mono ?_
    rintro e w' ⟨rfl, rfl⟩
    go_wp2_with fail
    go_ret
    exact ⟨rfl, rfl⟩
  | true =>
    rw [hm] at HM
    have hb := bits_last a hm
    rw [Bool.true_and, ← hb]
    clear hm hb
    obtain ⟨x, hx⟩ : ∃ x, x = bitsS a := ⟨_, rfl⟩
    rw [← hx] at HB ⊢
    clear hx
    go_enter Try.func10, Try.ntmps10
    go_wp2_with fail
    refine (HM.out _).mono ?_
    rintro e w' ⟨rfl, rfl⟩
    go_wp2_with fail
    refine (HB.out _).mono ?_
    rintro e w' ⟨rfl, rfl⟩
    go_wp2_with fail
    go_ret
    exact ⟨rfl, rfl⟩
theorem plive_any (a : Int) (w : World) : Calls Try.prog 12 #[.int .i64 a] w fun e w' => e = .returned (.bool (liveS a)) ∧ w' = w := by
  have HB := Lib.hid (pbits_any a)
  have hl : liveS a = (bitsS a != 0) := by
    unfold liveS
    cases hm : mayS a with
    | false => unfold bitsS; rw [hm]; rfl
    | true => rw [← bits_last a hm]; rfl
  rw [hl]
  clear hl
  obtain ⟨x, hx⟩ : ∃ x, x = bitsS a := ⟨_, rfl⟩
  rw [← hx] at HB ⊢
  clear hx
  go_enter Try.func12, Try.ntmps12
  go_wp2_with fail
  refine (HB.out _).mono ?_
  rintro e w' ⟨rfl, rfl⟩
  go_wp2_with fail
  go_ret
  exact ⟨rfl, rfl⟩
theorem lead_bits (a b : Int) (hm : mayS b = true) : (bits BinOp.and IntKind.u64 (bitsS a / 2 ^ b.toNat) 1 == 1) = leadsS a b := by
  have hr : 1 ≤ b ∧ b ≤ 9 := of_decide_eq_true hm
  cases hma : mayS a with
  | false =>
    have h1 : bitsS a = 0 := by unfold bitsS; rw [hma]; rfl
    have h2 : leadsS a b = false := by unfold leadsS; rw [hma]; rfl
    rw [h1, h2, Int.zero_ediv]
    rfl
  | true =>
    have hs : 1 ≤ a ∧ a ≤ 9 := of_decide_eq_true hma
    have ha : a = 1 ∨ a = 2 ∨ a = 3 ∨ a = 4 ∨ a = 5 ∨ a = 6 ∨ a = 7 ∨ a = 8 ∨ a = 9 := by omega
    have hb : b = 1 ∨ b = 2 ∨ b = 3 ∨ b = 4 ∨ b = 5 ∨ b = 6 ∨ b = 7 ∨ b = 8 ∨ b = 9 := by omega
    clear hm hma hr hs
    rcases ha with rfl | rfl | rfl | rfl | rfl | rfl | rfl | rfl | rfl <;> rcases hb with rfl | rfl | rfl | rfl | rfl | rfl | rfl | rfl | rfl <;> decide +kernel
theorem pleads_any (a b : Int) (w : World) : Calls Try.prog 13 #[.int .i64 a, .int .i64 b] w fun e w' => e = .returned (.bool (leadsS a b)) ∧ w' = w := by
  have HM := Lib.hid (pmay_any b)
  have HB := Lib.hid (pbits_any a)
  cases hm : mayS b with
  | false =>
    have e : leadsS a b = false := by unfold leadsS; rw [hm]; simp
    rw [hm] at HM
    rw [e]
    clear hm e
    go_enter Try.func13, Try.ntmps13
    go_wp2_with fail
    refine (HM.out _).mono ?_
    rintro e w' ⟨rfl, rfl⟩
    go_wp2_with fail
    go_ret
    exact ⟨rfl, rfl⟩
  | true =>
    rw [hm] at HM
    have hr : 1 ≤ b ∧ b ≤ 9 := of_decide_eq_true hm
    obtain ⟨x, hx⟩ : ∃ x, x = bitsS a := ⟨_, rfl⟩
    rw [← hx] at HB
    have hb0 : (0 : Int) ≤ b := by omega
    have hm0 := hm
    clear hm
    rw [← lead_bits a b hm0]
    clear hm0
    go_enter Try.func13, Try.ntmps13
    go_wp2_with fail
    refine (HM.out _).mono ?_
    rintro e w' ⟨rfl, rfl⟩
    go_wp2_with fail
    subst hx
    refine (HB.out _).mono ?_
    rintro e w' ⟨rfl, rfl⟩
    go_wp2_with fail
    go_ret
    exact ⟨rfl, rfl⟩
set_option maxRecDepth 100000 in
theorem pnext_own (a : Int) (w : World) : Calls Try.prog 16 #[.int .i64 a] w fun e w' => ∃ v, e = .returned v ∧ RowS w' w.heap.size v (nextS a) ∧ Fr (fun _ => False) w w' := by
  have HRL := Lib.hid (fun z => pleads_any a z)
  have HRM := Lib.hid (fun z => pmay_any z)
  go_enter Try.func16, Try.ntmps16
  go_wp2_with fail
  go_loopw [3, 4] (fun o x wq => ∃ (ov : Value) (s : Nat), ov = o ∧ x = .int .i64 s ∧ 1 ≤ s ∧ s ≤ 10 ∧ Hid (RowS wq w.heap.size ov (wantS a (s - 1))) ∧ Hid (Fr (fun _ => False) w wq)) (fun _ x _ => 10 - (intOf x).toNat)
  case atStart => exact ⟨_, 1, rfl, rfl, by omega, by omega, Lib.hid (RowS.nil _ _), Lib.hid (Fr.refl _ _)⟩
  case round =>
    obtain ⟨o, s, ho, rfl, hs1, hs2, HO, HF⟩ := hrel
    subst ho
    by_cases hs : s ≤ 9
    · have HM := Lib.hid (HRM.out (s : Int))
      rw [show mayS (s : Int) = true from decide_eq_true (by omega)] at HM
      have hsi : (s : Int) ≤ 9 := by omega
      have hs0 : (1 : Int) ≤ (s : Int) := by omega
      obtain ⟨s', hs'⟩ : ∃ s', s = s' + 1 := ⟨s - 1, by omega⟩
      have hst := wantS_step a s'
      rw [← hs'] at hst
      have hO := HO.out
      rw [show s - 1 = s' by omega] at hO
      have HL := Lib.hid (HRL.out (s : Int))
      have HS := Lib.hid hs
      cases hq : leadsS a (s : Int) with
      | false =>
        rw [hq] at hst HL
        have HO2 : Hid (RowS wr w.heap.size o (wantS a (s + 1 - 1))) := Lib.hid (by rw [Nat.add_sub_cancel, hst]; exact hO)
        clear hO hst hs' hs hq HO
        go_wp2_with fail
        refine (HM.out _).mono ?_
        rintro e w' ⟨rfl, rfl⟩
        go_wp2_with fail
        refine (HL.out _).mono ?_
        rintro e w' ⟨rfl, rfl⟩
        go_wp2_with fail
        refine ⟨⟨o, s + 1, rfl, by go_num, by omega, by have := HS.out; omega, HO2, HF⟩, ?_⟩
        simp [intOf]
        have := HS.out
        omega
      | true =>
        rw [hq] at hst HL
        have HO2 := Lib.hid (And.intro hO (And.intro hst (show (wantS a s').length ≤ 100000 by unfold wantS; rw [List.length_map]; exact Nat.le_trans (List.length_filter_le _ _) (by simp; omega))))
        clear hO hst hs' hs hq HO
        go_wp2_with fail
        refine (HM.out _).mono ?_
        rintro e w' ⟨rfl, rfl⟩
        go_wp2_with fail
        refine (HL.out _).mono ?_
        rintro e w5 ⟨rfl, rfl⟩
        have fb : Fr (fun _ => False) w5 (w5.alloc (.cells #[.int .i64 (s : Int)] 22)) := (Fr.refl _ w5).alloc _
        have HE := Lib.hid (And.intro (HO2.out.1.keep0 fb) (And.intro (HF.out.trans fb (fun _ _ q => q)) (And.intro ((Blk.new w5 22 #[.int .i64 (s : Int)]).cell 0) HO2.out.2)))
        clear HO2 fb
        go_wp2_with (at_builtin; refine wpList_push_st rfl (.tmp 12) (.tmp 14) rfl rfl HE.out.1 rfl HE.out.2.2.1 HE.out.2.2.2.2 HE.out.2.1.size ?_; intro v3 w6 ho3 hg3 hat3; have HG := Lib.hid (And.intro ho3 (HE.out.2.1.grown hg3 (fun k hk => .inr (HE.out.1.low hk)))); clear ho3 hg3 hat3)
        refine ⟨⟨v3, s + 1, rfl, by go_num, by omega, by have := HS.out; omega, Lib.hid (by rw [Nat.add_sub_cancel, HE.out.2.2.2.1]; exact HG.out.1), Lib.hid HG.out.2⟩, ?_⟩
        simp [intOf]
        have := HS.out
        omega
    · obtain rfl : s = 10 := by omega
      have hO := HO.out
      rw [show 10 - 1 = 9 from rfl, wantS_nine] at hO
      have HM := Lib.hid (HRM.out ((10 : Nat) : Int))
      rw [show mayS ((10 : Nat) : Int) = false from rfl] at HM
      have HO2 := Lib.hid hO
      clear hO HO hs hs1 hs2
      go_wp2_with fail
      refine (HM.out _).mono ?_
      rintro e w' ⟨rfl, rfl⟩
      go_wp2_with fail
      go_ret
      exact ⟨_, rfl, HO2.out, HF.out⟩
theorem pnext_any (a : Int) (w : World) : Calls Try.prog 16 #[.int .i64 a] w fun e w' => ∃ v, e = .returned v ∧ IntsAt w' v (nextS a) ∧ Fr (fun _ => False) w w' :=
  (pnext_own a w).mono (fun _ _ ⟨v, h1, h2, h3⟩ => ⟨v, h1, h2.ints, h3⟩)
theorem pletter_any (a : Int) (w : World) : Calls Try.prog 22 #[.int .i64 a] w fun e w' => ∃ s : ByteArray, e = .returned (.string s) ∧ s.data.toList = letterS a ∧ w' = w := by
  have HM := Lib.hid (pmayNot_any a)
  cases hm : mayS a with
  | false =>
    have e : letterS a = [] := by unfold letterS; rw [hm]; rfl
    rw [hm, Bool.not_false] at HM
    rw [e]
    clear hm e
    go_enter Try.func22, Try.ntmps22
    go_wp2_with fail
    refine (HM.out _).mono ?_
    rintro e w' ⟨rfl, rfl⟩
    go_wp2_with fail
    go_ret
    exact ⟨_, rfl, rfl, rfl⟩
  | true =>
    have hr : 1 ≤ a ∧ a ≤ 9 := of_decide_eq_true hm
    rw [hm, Bool.not_true] at HM
    clear hm
    have h9 : a = 1 ∨ a = 2 ∨ a = 3 ∨ a = 4 ∨ a = 5 ∨ a = 6 ∨ a = 7 ∨ a = 8 ∨ a = 9 := by omega
    clear hr
    rcases h9 with rfl | rfl | rfl | rfl | rfl | rfl | rfl | rfl | rfl
    · go_enter Try.func22, Try.ntmps22
      go_wp2_with fail
      refine (HM.out _).mono ?_
      rintro e w' ⟨rfl, rfl⟩
      go_wp2_with fail
      go_ret
      exact ⟨_, rfl, by decide +kernel, rfl⟩
    · go_enter Try.func22, Try.ntmps22
      go_wp2_with fail
      refine (HM.out _).mono ?_
      rintro e w' ⟨rfl, rfl⟩
      go_wp2_with fail
      go_ret
      exact ⟨_, rfl, by decide +kernel, rfl⟩
    · go_enter Try.func22, Try.ntmps22
      go_wp2_with fail
      refine (HM.out _).mono ?_
      rintro e w' ⟨rfl, rfl⟩
      go_wp2_with fail
      go_ret
      exact ⟨_, rfl, by decide +kernel, rfl⟩
    · go_enter Try.func22, Try.ntmps22
      go_wp2_with fail
      refine (HM.out _).mono ?_
      rintro e w' ⟨rfl, rfl⟩
      go_wp2_with fail
      go_ret
      exact ⟨_, rfl, by decide +kernel, rfl⟩
    · go_enter Try.func22, Try.ntmps22
      go_wp2_with fail
      refine (HM.out _).mono ?_
      rintro e w' ⟨rfl, rfl⟩
      go_wp2_with fail
      go_ret
      exact ⟨_, rfl, by decide +kernel, rfl⟩
    · go_enter Try.func22, Try.ntmps22
      go_wp2_with fail
      refine (HM.out _).mono ?_
      rintro e w' ⟨rfl, rfl⟩
      go_wp2_with fail
      go_ret
      exact ⟨_, rfl, by decide +kernel, rfl⟩
    · go_enter Try.func22, Try.ntmps22
      go_wp2_with fail
      refine (HM.out _).mono ?_
      rintro e w' ⟨rfl, rfl⟩
      go_wp2_with fail
      go_ret
      exact ⟨_, rfl, by decide +kernel, rfl⟩
    · go_enter Try.func22, Try.ntmps22
      go_wp2_with fail
      refine (HM.out _).mono ?_
      rintro e w' ⟨rfl, rfl⟩
      go_wp2_with fail
      go_ret
      exact ⟨_, rfl, by decide +kernel, rfl⟩
    · go_enter Try.func22, Try.ntmps22
      go_wp2_with fail
      refine (HM.out _).mono ?_
      rintro e w' ⟨rfl, rfl⟩
      go_wp2_with fail
      go_ret
      exact ⟨_, rfl, by decide +kernel, rfl⟩
end Go.Proofs.Ythffnepfnadakaa
