/- WireSigned is true: which texts are whole numbers, below a bound or above it, and that each whole number is told by its digits; for every text and every two whole numbers, in whatever memory. No conditions. -/
import Derived.Test.YthmjfbefekicdaaRsg
import Derived.Test.YthmjfbefekicdaaKnown
import Derived.Test.YthmjfbefekicdaaLaw
namespace Go.Proofs.Ythmjfbefekicdaa
open Go.ChangeShapes Go.WideShapes Go.ChangeAt Go.RowKit
open Go.ChangeMaps (open_string)

theorem rsgn_any (s t : ByteArray) (b : Bool) (hs : s.size ≤ 1000) (hc : Cut s t b) (m : Int) (h0 : -9223372036854775808 ≤ m) (h1 : m ≤ 9223372036854775807) (w : World) :
    Calls Try.prog 42 #[.string s, .int .i64 m] w fun e w' => e = .returned (.tuple #[.int .i64 (sgN b t.data.toList m), .int .i64 (sgE b t.data.toList m)]) ∧ Fr (fun _ => False) w w' := by
  rcases hc with ⟨rfl, h⟩ | ⟨rfl, rfl, h⟩
  · exact rsgn_yes s t hs h m h0 h1 w
  · by_cases hn : t.data.toList = []
    · exact rsgn_nil t hn m h0 h1 w
    · exact rsgn_no t hs h hn m h0 h1 w

theorem whole_pos (n : Nat) (hn : n < 9223372036854775808) (w : World) :
    Calls Try.prog 43 #[.int .i64 n] w fun e w' => ∃ s : ByteArray, e = .returned (.string s) ∧ s.data.toList = txt n ∧ Fr (fun _ => False) w w' := by
  have HT := Lib.hid (text_any n (by omega) w)
  have hw : IntKind.u64.wrap (n : Int) = (n : Int) := by rw [wrapU]; omega
  clear hn
  go_enter Try.func43, Try.ntmps43
  go_wp2_with fail
  (with_reducible refine HT.out.mono ?_)
  rintro e w1 ⟨t, rfl, ht, hf⟩
  have H := Lib.hid ht
  clear ht
  go_wp2_with fail
  go_ret
  exact ⟨t, rfl, H.out, hf⟩

theorem str_app2 (c : UInt8) (s : ByteArray) : ((⟨#[c]⟩ : ByteArray) ++ s).data.toList = c :: s.data.toList := str_app c s

theorem whole_neg (j : Nat) (hj : j < 9223372036854775808) (n : Int) (hn : n = -((j : Int) + 1)) (w : World) :
    Calls Try.prog 43 #[.int .i64 n] w fun e w' => ∃ s : ByteArray, e = .returned (.string s) ∧ s.data.toList = 45 :: txt (j + 1) ∧ Fr (fun _ => False) w w' := by
  have HT : Hid (Calls Try.prog 40 #[.int .u64 ((j : Int) + 1)] w fun e w' => ∃ s : ByteArray, e = .returned (.string s) ∧ s.data.toList = txt (j + 1) ∧ Fr (fun _ => False) w w') := Lib.hid (text_any (j + 1) (by omega) w)
  have HL := Lib.hid (txt_len 19 (j + 1) (by omega))
  have hlt : n < 0 := by omega
  have hw1 : wrap64 (n + 1) = -(j : Int) := by unfold wrap64; omega
  have hw2 : wrap64 (-(-(j : Int))) = (j : Int) := by unfold wrap64; omega
  have hw3 : IntKind.u64.wrap (j : Int) = (j : Int) := by rw [wrapU]; omega
  have hw4 : IntKind.u64.wrap ((j : Int) + 1) = ((j + 1 : Nat) : Int) := by rw [wrapU]; omega
  have hw5 : wrap64 (j : Int) = (j : Int) := by unfold wrap64; omega
  clear hj hn
  go_enter Try.func43, Try.ntmps43
  go_wp2_with fail
  (with_reducible refine HT.out.mono ?_)
  rintro e w1 ⟨t, rfl, ht, hf⟩
  have hsz : t.size ≤ 20 := by have := HL.out; rw [← ht, Array.length_toList] at this; exact this
  have H := Lib.hid ht
  clear ht
  go_wp2_with fail
  go_ret
  exact ⟨_, rfl, by rw [str_app2, H.out], hf⟩

/-- A whole number's text, and what stands in it. -/
theorem whole_any (n : Int) (h0 : -9223372036854775808 ≤ n) (h1 : n ≤ 9223372036854775807) (w : World) :
    Calls Try.prog 43 #[.int .i64 n] w fun e w' => ∃ (s t : ByteArray) (b : Bool), e = .returned (.string s) ∧ s.size ≤ 1000 ∧ Cut s t b ∧ t.data.toList = txt n.natAbs ∧ b = decide (n < 0) ∧ Fr (fun _ => False) w w' := by
  by_cases hn : n < 0
  · obtain ⟨j, hj⟩ := Int.eq_ofNat_of_zero_le (show 0 ≤ -n - 1 by omega)
    refine (whole_neg j (by omega) n (by omega) w).mono fun e w' ⟨s, he, hs, hf⟩ => ?_
    have ha : n.natAbs = j + 1 := by omega
    have hl := txt_len 19 (j + 1) (by omega)
    have hsz : s.size = (txt (j + 1)).length + 1 := by
      have := congrArg List.length hs
      rw [Array.length_toList] at this
      exact this
    refine ⟨s, ⟨(txt (j + 1)).toArray⟩, true, he, by omega, .inl ⟨rfl, hs⟩, by rw [ha], by simp [hn], hf⟩
  · obtain ⟨j, rfl⟩ := Int.eq_ofNat_of_zero_le (show 0 ≤ n by omega)
    refine (whole_pos j (by omega) w).mono fun e w' ⟨s, he, hs, hf⟩ => ?_
    have hl := txt_len 19 j (by omega)
    have hsz : s.size = (txt j).length := by
      have := congrArg List.length hs
      rw [Array.length_toList] at this
      exact this
    refine ⟨s, s, false, he, by omega, .inr ⟨rfl, rfl, ?_⟩, hs, by simp, hf⟩
    rw [hs]
    have hd := (txt_digs j).1
    intro hh
    cases ht : txt j with
    | nil => rw [ht] at hh; cases hh
    | cons c r =>
      rw [ht] at hh hd
      simp only [List.head?_cons, Option.some.injEq] at hh
      subst hh
      simp [isDig] at hd

theorem sg_txt (n m : Int) : (0 ≤ m ∧ (n.natAbs : Int) ≤ m → sgE (decide (n < 0)) (txt n.natAbs) m = 0 ∧ sgN (decide (n < 0)) (txt n.natAbs) m = n) ∧
    (¬ (0 ≤ m ∧ (n.natAbs : Int) ≤ m) → sgE (decide (n < 0)) (txt n.natAbs) m = 5 ∧ sgN (decide (n < 0)) (txt n.natAbs) m = 0) := by
  have hmay := txt_may n.natAbs
  have hval := (txt_digs n.natAbs).2.1
  have h48 : ¬ (decide (n < 0) = true ∧ txt n.natAbs = [48]) := by
    rintro ⟨h1, h2⟩
    rw [decide_eq_true_eq] at h1
    have := txt_head n.natAbs (by omega)
    rw [h2] at this
    exact this rfl
  obtain ⟨_, _, g3, g4, g5⟩ := rs_facts (decide (n < 0)) (txt n.natAbs) m
  rw [hval] at g4 g5
  refine ⟨fun ⟨h1, h2⟩ => ?_, fun h => ?_⟩
  · obtain ⟨e1, e2⟩ := g5 hmay h48 h1 h2
    refine ⟨e1, e2.trans ?_⟩
    by_cases hn : n < 0
    · simp [hn]; omega
    · simp [hn]; omega
  · by_cases hm : m < 0
    · exact g3 hmay h48 hm
    · exact g4 hmay h48 (by omega) (by omega)

/-- Is a whole number within a bound? (The law's own words.) -/
def inB (n m : Int) : Bool := decide (0 ≤ m ∧ (n.natAbs : Int) ≤ m)

theorem law_end {w w1 w2 : World} (h : Fr (fun _ => False) w w1) (k : Fr (fun _ => False) w1 w2) : Below w.heap.size w w2 := (h.trans k (fun _ _ => id)).below (Nat.le_refl _) (fun _ _ => id)

set_option maxHeartbeats 4000000 in
set_option maxRecDepth 100000 in
theorem law_WireSigned (s : ByteArray) (hs : s.size ≤ maxLen) (m n : Int) (hm0 : -9223372036854775808 ≤ m) (hm1 : m ≤ 9223372036854775807) (hn0 : -9223372036854775808 ≤ n) (hn1 : n ≤ 9223372036854775807) (w : World) :
    Calls Try.prog 8 #[.string s, .int .i64 m, .int .i64 n] w fun e w' => e = .returned (.bool true) ∧ Below w.heap.size w w' := by
  unfold maxLen at hs
  by_cases hl : 100 < s.size
  · clear hm0 hm1 hn0 hn1
    go_enter Try.func8, Try.ntmps8
    go_wp2_with fail
    refine (known_any _).mono ?_
    rintro e w1 ⟨rfl, hf⟩
    go_wp2
    go_ret
    exact ⟨rfl, hf.below (Nat.le_refl _) (fun _ _ => id)⟩
  · obtain ⟨t, b, hc⟩ := Cut.ex s
    have HS := fun u => Lib.hid (sgn_any s t b (by omega) hc m hm0 hm1 u)
    have HR := fun u => Lib.hid (rsgn_any s t b (by omega) hc m hm0 hm1 u)
    have HW := fun u => Lib.hid (whole_any n hn0 hn1 u)
    have HM := Lib.hid (And.intro hm0 (And.intro hm1 (And.intro hn0 hn1)))
    clear hm0 hm1 hn0 hn1 hc
    generalize hx : sgN b t.data.toList m = x at *
    generalize hy : sgE b t.data.toList m = y at *
    clear hx hy
    go_enter Try.func8, Try.ntmps8
    go_wp2_with fail
    (with_reducible refine (HS _).out.mono ?_)
    rintro e w1 ⟨rfl, f1⟩
    go_wp2_with fail
    (with_reducible refine (HR _).out.mono ?_)
    rintro e w2 ⟨rfl, f2⟩
    replace f2 := f1.trans f2 (fun _ _ => id)
    clear f1
    go_wp2_with fail
    (with_reducible refine (HW _).out.mono ?_)
    rintro e w3 ⟨u, v, c, rfl, hu, hcu, hv, hcb, f3⟩
    replace f3 := f2.trans f3 (fun _ _ => id)
    clear f2 HS HR HW
    have HD2 := Lib.hid (sgn_any u v c hu hcu m HM.out.1 HM.out.2.1 w3)
    have hst := sg_txt n m
    rw [← hcb, ← hv] at hst
    clear hv hcb hcu hu
    by_cases hq : 0 ≤ m ∧ (n.natAbs : Int) ≤ m
    · obtain ⟨e1, e2⟩ := hst.1 hq
      rw [e1, e2] at HD2
      clear hst e1 e2
      go_wp2_with fail
      (with_reducible refine HD2.out.mono ?_)
      rintro e w4 ⟨rfl, f4⟩
      replace f4 := f3.trans f4 (fun _ _ => id)
      have a1 : decide (0 ≤ m) = true := by rw [decide_eq_true_eq]; omega
      have a2 : decide (n ≤ m) = true := by rw [decide_eq_true_eq]; omega
      by_cases hn : 0 ≤ n
      · have a3 : decide (0 ≤ n) = true := by rw [decide_eq_true_eq]; exact hn
        clear hq
        go_wp2_with fail
        (with_reducible refine (known_any _).mono ?_)
        rintro e w5 ⟨rfl, f5⟩
        go_wp2
        go_ret
        exact ⟨rfl, law_end f4 f5⟩
      · have a3 : decide (0 ≤ n) = false := by rw [decide_eq_false_iff_not]; exact hn
        have a4 : decide (-(n + 1) < m) = true := by rw [decide_eq_true_eq]; omega
        have hw1 : wrap64 (n + 1) = n + 1 := by have := HM.out; unfold wrap64; omega
        have hw2 : wrap64 (-(n + 1)) = -(n + 1) := by have := HM.out; unfold wrap64; omega
        clear hq
        go_wp2_with fail
        (with_reducible refine (known_any _).mono ?_)
        rintro e w5 ⟨rfl, f5⟩
        go_wp2
        go_ret
        exact ⟨rfl, law_end f4 f5⟩
    · obtain ⟨e1, e2⟩ := hst.2 hq
      rw [e1, e2] at HD2
      clear hst e1 e2
      go_wp2_with fail
      (with_reducible refine HD2.out.mono ?_)
      rintro e w4 ⟨rfl, f4⟩
      replace f4 := f3.trans f4 (fun _ _ => id)
      by_cases b1 : 0 ≤ m
      · have a1 : decide (0 ≤ m) = true := by rw [decide_eq_true_eq]; exact b1
        by_cases b2 : n ≤ m
        · have a2 : decide (n ≤ m) = true := by rw [decide_eq_true_eq]; exact b2
          have hn : n < 0 := by omega
          have a3 : decide (0 ≤ n) = false := by rw [decide_eq_false_iff_not]; omega
          have a4 : decide (-(n + 1) < m) = false := by rw [decide_eq_false_iff_not]; omega
          have hw1 : wrap64 (n + 1) = n + 1 := by have := HM.out; unfold wrap64; omega
          have hw2 : wrap64 (-(n + 1)) = -(n + 1) := by have := HM.out; unfold wrap64; omega
          clear hq
          go_wp2_with fail
          (with_reducible refine (known_any _).mono ?_)
          rintro e w5 ⟨rfl, f5⟩
          go_wp2
          go_ret
          exact ⟨rfl, law_end f4 f5⟩
        · have a2 : decide (n ≤ m) = false := by rw [decide_eq_false_iff_not]; exact b2
          clear hq
          go_wp2_with fail
          (with_reducible refine (known_any _).mono ?_)
          rintro e w5 ⟨rfl, f5⟩
          go_wp2
          go_ret
          exact ⟨rfl, law_end f4 f5⟩
      · have a1 : decide (0 ≤ m) = false := by rw [decide_eq_false_iff_not]; exact b1
        clear hq
        go_wp2_with fail
        (with_reducible refine (known_any _).mono ?_)
        rintro e w5 ⟨rfl, f5⟩
        go_wp2
        go_ret
        exact ⟨rfl, law_end f4 f5⟩

theorem i64_of_wf {a : Int} (h : (Lit.int .i64 a).wf = true) : -9223372036854775808 ≤ a ∧ a ≤ 9223372036854775807 := by
  simpa [Lit.wf, IntKind.min, IntKind.max, IntKind.signed, IntKind.bits] using h

set_option maxRecDepth 100000 in
theorem lifted_WireSigned (os : Os) (started : os.Started) (H : Type) (enc : TypeId × Value → H) :
    ReturnsInHanded {} Try.checked os 8 .any (Rows.wireSignedSpec.pre6 enc Try.prog Try.f8 Rows.wireSignedRow.domain false) (Rows.wireSignedSpec.post enc Try.prog Try.f8 false true false false) := by
  refine returnsInHanded_of_change (C := Try.checked) own started (by kernel_rfl) Try.func8
    (ChangeSpec.witness6 (enc := enc) (C := Try.checked) false ⟨#[], #[.string .empty, .int .i64 0, .int .i64 0], []⟩ 8 (by kernel_rfl) (by kernel_rfl) (by kernel_rfl) (by kernel_rfl)) ?_
  intro W base args ds gs before hval hW hcnd _
  have hA0 := hW
  obtain ⟨p, q, hA, hV, _⟩ := hA0
  change DataW.TrodAll enc Try.prog W 0 (fun _ => true) true Try.f8.params.toList args.toList ds p at hA
  have hval' : ∀ (j : Nat) t v, Try.f8.params[j]? = some t → args[j]? = some v → Value.okWide Try.prog W .any base t v := hval
  rw [Try.params8] at hA hval'
  obtain ⟨v0, vs0, d0, ds0, p0, q0, hargs, rfl, rfl, h0, r0⟩ := trodAll_cons hA
  obtain ⟨v1, vs1, d1, ds1, p1, q1, rfl, rfl, rfl, h1, r1⟩ := trodAll_cons r0
  obtain ⟨v2, vs2, d2, ds2, p2, q2, rfl, rfl, rfl, h2, r2⟩ := trodAll_cons r1
  obtain ⟨rfl, rfl, rfl⟩ := trodAll_nil r2
  obtain rfl : args = #[v0, v1, v2] := by cases args; simp_all
  obtain ⟨s, rfl, rfl, rfl, hmax⟩ := open_string Try.underlying9 (hval' 0 9 v0 rfl rfl) h0
  obtain ⟨a1, rfl, rfl, rfl, w1⟩ := open_int Try.underlying2 (hval' 1 2 v1 rfl rfl) h1
  obtain ⟨a2, rfl, rfl, rfl, w2⟩ := open_int Try.underlying2 (hval' 2 2 v2 rfl rfl) h2
  refine (law_WireSigned s hmax a1 a2 (i64_of_wf w1).1 (i64_of_wf w1).2 (i64_of_wf w2).1 (i64_of_wf w2).2 W).mono fun e W' ⟨he, hb⟩ => ⟨_, he, law_post laidOut rfl (by kernel_rfl) rfl Try.underlying4 hW rfl hb⟩

theorem proved_WireSigned : Rows.WireSignedSaid :=
  OpenClaim.holds_of_wide 8 Try.f8 rfl rfl rfl rfl rfl rfl rfl ⟨rfl, rfl, rfl, rfl, rfl⟩ rfl rfl rfl rfl rfl (by kernel_rfl) Try.func8 (by kernel_rfl)
    (of_decide_eq_true (by kernel_rfl)) (by unfold Func.isWrapper; first | (rw [if_pos (by decide +kernel)]; kernel_rfl) | (rw [if_neg (by decide +kernel)]; exact ⟨rfl, rfl⟩))
    (fun os started H enc _ => lifted_WireSigned os started H enc)
#print axioms proved_WireSigned
end Go.Proofs.Ythmjfbefekicdaa
