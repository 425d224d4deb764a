/- WireDecimals is true: which texts are numbers, below a bound or above it, and that each number is told by its digits; for every text and every two numbers of 8 bytes, in whatever memory. No conditions. -/
import Derived.Test.YthmjfbefekicdaaDml
import Derived.Test.YthmjfbefekicdaaKnown
import Derived.Test.YthmjfbefekicdaaLaw
namespace Go.Proofs.Ythmjfbefekicdaa
open Go.ChangeShapes Go.WideShapes Go.ChangeAt Go.RowKit
open Go.ChangeMaps (open_string)

theorem dec_txt (n m : Nat) : decN (txt n) m = (if m < n then 0 else n) ∧ decE (txt n) m = (if m < n then 5 else 0) := by
  have h1 := txt_may n
  have h2 := (txt_digs n).2.1
  unfold decN decE
  rw [h1, h2]
  exact ⟨rfl, rfl⟩

theorem law_end {w w1 w2 : World} (h : Fr (fun _ => False) w w1) (k : Fr (fun _ => False) w1 w2) : Below w.heap.size w w2 := (h.trans k (fun _ _ => id)).below (Nat.le_refl _) (fun _ _ => id)

set_option maxHeartbeats 2000000 in
set_option maxRecDepth 100000 in
theorem law_WireDecimals (s : ByteArray) (hs : s.size ≤ maxLen) (m n : Nat) (hm : m < 18446744073709551616) (hn : n < 18446744073709551616) (w : World) :
    Calls Try.prog 7 #[.string s, .int .u64 m, .int .u64 n] w fun e w' => e = .returned (.bool true) ∧ Below w.heap.size w w' := by
  unfold maxLen at hs
  by_cases hl : 100 < s.size
  · clear hm hn
    go_enter Try.func7, Try.ntmps7
    go_wp2_with fail
    refine (known_any _).mono ?_
    rintro e w1 ⟨rfl, hf⟩
    go_wp2
    go_ret
    exact ⟨rfl, hf.below (Nat.le_refl _) (fun _ _ => id)⟩
  · have HD := Lib.hid (dec_any s (by omega) m hm w)
    have HR := fun u => Lib.hid (rdec_any s (by omega) m hm u)
    have HT := fun u => Lib.hid (text_any n hn u)
    have HT20 := Lib.hid (txt_len 19 n (by omega))
    have HM := Lib.hid hm
    clear hm hn
    generalize hx : decN s.data.toList m = x at *
    generalize hy : decE s.data.toList m = y at *
    clear hx hy
    go_enter Try.func7, Try.ntmps7
    go_wp2_with fail
    refine HD.out.mono ?_
    rintro e w1 ⟨rfl, f1⟩
    go_wp2_with fail
    refine (HR _).out.mono ?_
    rintro e w2 ⟨rfl, f2⟩
    replace f2 := f1.trans f2 (fun _ _ => id)
    clear f1
    go_wp2_with fail
    refine (HT _).out.mono ?_
    rintro e w3 ⟨t, rfl, ht, f3⟩
    replace f3 := f2.trans f3 (fun _ _ => id)
    clear f2 HT HR HD
    have HD2 := Lib.hid (dec_any t (by have := HT20.out; rw [← ht, Array.length_toList] at this; exact Nat.le_trans this (by omega)) m HM.out w3)
    rw [ht, (dec_txt n m).1, (dec_txt n m).2] at HD2
    clear ht HT20 HM
    by_cases hq : m < n
    · rw [if_pos hq, if_pos hq] at HD2
      have e1 : decide (n ≤ m) = false := by rw [decide_eq_false_iff_not]; omega
      have e2 : decide (m < n) = true := by rw [decide_eq_true_eq]; omega
      clear hq
      go_wp2_with fail
      refine HD2.out.mono ?_
      rintro e w4 ⟨rfl, f4⟩
      replace f4 := f3.trans f4 (fun _ _ => id)
      go_wp2_with fail
      refine (known_any _).mono ?_
      rintro e w5 ⟨rfl, f5⟩
      go_wp2
      go_ret
      exact ⟨rfl, law_end f4 f5⟩
    · rw [if_neg hq, if_neg hq] at HD2
      have e1 : decide (n ≤ m) = true := by rw [decide_eq_true_eq]; omega
      clear hq
      go_wp2_with fail
      refine HD2.out.mono ?_
      rintro e w4 ⟨rfl, f4⟩
      replace f4 := f3.trans f4 (fun _ _ => id)
      go_wp2_with fail
      refine (known_any _).mono ?_
      rintro e w5 ⟨rfl, f5⟩
      go_wp2
      go_ret
      exact ⟨rfl, law_end f4 f5⟩

/-- A number of 8 bytes, as it is read. -/
theorem nat_of_wf {a : Int} (h : (Lit.int .u64 a).wf = true) : ∃ n : Nat, a = n ∧ n < 18446744073709551616 := by
  have hx : 0 ≤ a ∧ a ≤ 18446744073709551615 := by simpa [Lit.wf, IntKind.min, IntKind.max, IntKind.signed, IntKind.bits] using h
  exact ⟨a.toNat, by omega, by omega⟩

set_option maxRecDepth 100000 in
theorem lifted_WireDecimals (os : Os) (started : os.Started) (H : Type) (enc : TypeId × Value → H) :
    ReturnsInHanded {} Try.checked os 7 .any (Rows.wireDecimalsSpec.pre6 enc Try.prog Try.f7 Rows.wireDecimalsRow.domain false) (Rows.wireDecimalsSpec.post enc Try.prog Try.f7 false true false false) := by
  refine returnsInHanded_of_change (C := Try.checked) own started (by kernel_rfl) Try.func7
    (ChangeSpec.witness6 (enc := enc) (C := Try.checked) false ⟨#[], #[.string .empty, .int .u64 0, .int .u64 0], []⟩ 8 (by kernel_rfl) (by kernel_rfl) (by kernel_rfl) (by kernel_rfl)) ?_
  intro W base args ds gs before hval hW hcnd _
  have hA0 := hW
  obtain ⟨p, q, hA, hV, _⟩ := hA0
  change DataW.TrodAll enc Try.prog W 0 (fun _ => true) true Try.f7.params.toList args.toList ds p at hA
  have hval' : ∀ (j : Nat) t v, Try.f7.params[j]? = some t → args[j]? = some v → Value.okWide Try.prog W .any base t v := hval
  rw [Try.params7] at hA hval'
  obtain ⟨v0, vs0, d0, ds0, p0, q0, hargs, rfl, rfl, h0, r0⟩ := trodAll_cons hA
  obtain ⟨v1, vs1, d1, ds1, p1, q1, rfl, rfl, rfl, h1, r1⟩ := trodAll_cons r0
  obtain ⟨v2, vs2, d2, ds2, p2, q2, rfl, rfl, rfl, h2, r2⟩ := trodAll_cons r1
  obtain ⟨rfl, rfl, rfl⟩ := trodAll_nil r2
  obtain rfl : args = #[v0, v1, v2] := by cases args; simp_all
  obtain ⟨s, rfl, rfl, rfl, hmax⟩ := open_string Try.underlying9 (hval' 0 9 v0 rfl rfl) h0
  obtain ⟨a1, rfl, rfl, rfl, w1⟩ := open_int Try.underlying32 (hval' 1 32 v1 rfl rfl) h1
  obtain ⟨a2, rfl, rfl, rfl, w2⟩ := open_int Try.underlying32 (hval' 2 32 v2 rfl rfl) h2
  obtain ⟨m, rfl, hm⟩ := nat_of_wf w1
  obtain ⟨n, rfl, hn⟩ := nat_of_wf w2
  refine (law_WireDecimals s hmax m n hm hn W).mono fun e W' ⟨he, hb⟩ => ⟨_, he, law_post laidOut rfl (by kernel_rfl) rfl Try.underlying4 hW rfl hb⟩

theorem proved_WireDecimals : Rows.WireDecimalsSaid :=
  OpenClaim.holds_of_wide 7 Try.f7 rfl rfl rfl rfl rfl rfl rfl ⟨rfl, rfl, rfl, rfl, rfl⟩ rfl rfl rfl rfl rfl (by kernel_rfl) Try.func7 (by kernel_rfl)
    (of_decide_eq_true (by kernel_rfl)) (by unfold Func.isWrapper; first | (rw [if_pos (by decide +kernel)]; kernel_rfl) | (rw [if_neg (by decide +kernel)]; exact ⟨rfl, rfl⟩))
    (fun os started H enc _ => lifted_WireDecimals os started H enc)
#print axioms proved_WireDecimals
end Go.Proofs.Ythmjfbefekicdaa
