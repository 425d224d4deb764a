/- NumberStocks is true: which stocks may be, each one's numbers, in order, and which numbers are among them; for every stock and all other arguments, in whatever memory. No conditions. -/
import Derived.Test.YtchofmncinbmcaaNsy
import Derived.Test.YtchofmncinbmcaaNpp
namespace Go.Proofs.Ytchofmncinbmcaa
open Go.ChangeShapes Go.WideShapes Go.ChangeAt Go.RowKit
open Go.ChangeMaps (open_string)

theorem nstocks (c f k i lv : Int) (n : Nat) (hn : n < 18446744073709551616) (hr : InR f k) (w : World) : Calls Try.prog 6 #[stV c f k, .int .i64 i, .int .u64 n, .int .i64 lv] w fun e w' => e = .returned (.bool true) ∧ Fr (fun _ => False) w w' := by
  cases hm : mayS c f k with
  | true => exact nstocks_yes c f k i lv n hn hr hm w
  | false => exact nstocks_no c f k i lv n hn hr hm w
set_option maxRecDepth 100000 in
theorem lifted_NumberStocks (os : Os) (started : os.Started) (H : Type) (enc : TypeId × Value → H) :
    ReturnsInHanded {} Try.checked os 6 .any (Rows.numberStocksSpec.pre6 enc Try.prog Try.f6 Rows.numberStocksRow.domain false) (Rows.numberStocksSpec.post enc Try.prog Try.f6 false true false false) := by
  refine returnsInHanded_of_change (C := Try.checked) own started (by kernel_rfl) Try.func6
    (ChangeSpec.witness6 (enc := enc) (C := Try.checked) false ⟨#[], #[.agg #[.int .i64 0, .int .i64 0, .int .i64 0], .int .i64 0, .int .u64 0, .int .i64 0], []⟩ 8 (by kernel_rfl) (by kernel_rfl) (by kernel_rfl) (by kernel_rfl)) ?_
  intro W base args ds gs before hval hW hcnd _
  have hA0 := hW
  obtain ⟨p, q, hA, hV, _⟩ := hA0
  change DataW.TrodAll enc Try.prog W 0 (fun _ => true) true Try.f6.params.toList args.toList ds p at hA
  have hval' : ∀ (j : Nat) t v, Try.f6.params[j]? = some t → args[j]? = some v → Value.okWide Try.prog W .any base t v := hval
  rw [Try.params6] at hA hval'
  obtain ⟨v0, vs0, d0, ds0, p0, q0, hargs, rfl, rfl, h0, r0⟩ := trodAll_cons hA
  obtain ⟨v1, vs1, d1, ds1, p1, q1, rfl, rfl, rfl, h1, r1⟩ := trodAll_cons r0
  obtain ⟨v2, vs2, d2, ds2, p2, q2, rfl, rfl, rfl, h2, r2⟩ := trodAll_cons r1
  obtain ⟨v3, vs3, d3, ds3, p3, q3, rfl, rfl, rfl, h3, r3⟩ := trodAll_cons r2
  obtain ⟨rfl, rfl, rfl⟩ := trodAll_nil r3
  obtain rfl : args = #[v0, v1, v2, v3] := by cases args; simp_all
  obtain ⟨c, f, k, rfl, HR0⟩ := open_stock (okWide_stock (hval' 0 43 v0 rfl rfl)) h0
  obtain ⟨i, rfl, rfl, rfl, wf1⟩ := open_int Try.underlying3 (hval' 1 3 v1 rfl rfl) h1
  have lo1 := i64_of_wf wf1
  obtain ⟨a2, rfl, rfl, rfl, wf2⟩ := open_int Try.underlying22 (hval' 2 22 v2 rfl rfl) h2
  obtain ⟨n, rfl, hn2⟩ := nat_of_wf wf2
  obtain ⟨lv, rfl, rfl, rfl, wf3⟩ := open_int Try.underlying3 (hval' 3 3 v3 rfl rfl) h3
  have lo3 := i64_of_wf wf3
  exact (nstocks c f k i lv n hn2 HR0.out W).mono fun e W' ⟨he, hb⟩ => ⟨_, he, law_post laidOut rfl (by kernel_rfl) rfl Try.underlying4 hW rfl (hb.below (Nat.le_refl _) (fun _ _ q => q))⟩

theorem proved_NumberStocks : Rows.NumberStocksSaid :=
  OpenClaim.holds_of_wide 6 Try.f6 rfl rfl rfl rfl rfl rfl rfl ⟨rfl, rfl, rfl, rfl, rfl⟩ rfl rfl rfl rfl rfl (by kernel_rfl) Try.func6 (by kernel_rfl)
    (of_decide_eq_true (by kernel_rfl)) (by unfold Func.isWrapper; first | (rw [if_pos (by decide +kernel)]; kernel_rfl) | (rw [if_neg (by decide +kernel)]; exact ⟨rfl, rfl⟩))
    (fun os started H enc _ => lifted_NumberStocks os started H enc)
#print axioms proved_NumberStocks
end Go.Proofs.Ytchofmncinbmcaa
