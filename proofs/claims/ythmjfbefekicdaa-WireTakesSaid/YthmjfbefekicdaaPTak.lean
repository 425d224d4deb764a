/- WireTakes is true: what is taken, step by step, how much is left, and that nothing is taken behind what can't be; for all bytes and every list of puts, in whatever memory. No conditions. -/
import Derived.Test.YthmjfbefekicdaaLTakes
import Derived.Test.YthmjfbefekicdaaOpen
namespace Go.Proofs.Ythmjfbefekicdaa
open Go.ChangeShapes Go.WideShapes Go.ChangeAt Go.RowKit

theorem PutsO.nil (w : World) (B : Nat) (L : Option Addr) : PutsO w B L [] := by
  intro i x h
  simp at h
theorem PutsO.of {w : World} {B b off : Nat} {xs : List PutD} (h : PutsAt w B b off xs) : PutsO w B (some ⟨b, off, none⟩) xs := fun i x hx => ⟨b, off, rfl, h i x hx⟩

set_option maxRecDepth 100000 in
theorem lifted_WireTakes (os : Os) (started : os.Started) (H : Type) (enc : TypeId × Value → H) :
    ReturnsInHanded {} Try.checked os 4 .any (Rows.wireTakesSpec.pre6 enc Try.prog Try.f4 Rows.wireTakesRow.domain false) (Rows.wireTakesSpec.post enc Try.prog Try.f4 false true false false) := by
  refine returnsInHanded_of_change (C := Try.checked) own started (by kernel_rfl) Try.func4
    (ChangeSpec.witness6 (enc := enc) (C := Try.checked) false ⟨#[], #[.slice none 0 0, .slice none 0 0], []⟩ 8 (by kernel_rfl) (by kernel_rfl) (by kernel_rfl) (by kernel_rfl)) ?_
  intro W base args ds gs before hval hW hcnd _
  have hA0 := hW
  obtain ⟨p, q, hA, hV, _⟩ := hA0
  change DataW.TrodAll enc Try.prog W 0 (fun _ => true) true Try.f4.params.toList args.toList ds p at hA
  have hval' : ∀ (j : Nat) t v, Try.f4.params[j]? = some t → args[j]? = some v → Value.okWide Try.prog W .any base t v := hval
  rw [Try.params4] at hA hval'
  obtain ⟨v0, vs0, d0, ds0, p0, q0, hargs, rfl, rfl, h0, r0⟩ := trodAll_cons hA
  obtain ⟨v1, vs1, d1, ds1, p1, q1, rfl, rfl, rfl, h1, r1⟩ := trodAll_cons r0
  obtain ⟨rfl, rfl, rfl⟩ := trodAll_nil r1
  obtain rfl : args = #[v0, v1] := by cases args; simp_all
  obtain ⟨a, n, c, rfl⟩ := okWide_slice Try.underlying26 (hval' 0 26 v0 rfl rfl)
  obtain ⟨fuel, hf⟩ := h0
  obtain ⟨A', n', c', b, hcs, hr, hA', hnc, hcm, hlt⟩ := open_bytes hf
  simp [Value.cells] at hcs
  obtain ⟨rfl, rfl, rfl⟩ := hcs
  obtain rfl := hr.len
  rcases open_puts (okWide_slice Try.underlying22 (hval' 1 22 v1 rfl rfl)) h1 with ⟨A, cap, rfl⟩ | ⟨b', off, cap, xs, rfl, hl, hx⟩
  · refine (takes_any hr hnc hA' (Nat.le_trans hnc hcm) hlt (L := A) (xs := []) (cap := cap) (PutsO.nil _ _ _) (Nat.zero_le _) (few_nil A cap W)).mono fun e W' ⟨he, hb⟩ => ⟨_, he, law_post laidOut rfl (by kernel_rfl) rfl Try.underlying4 hW rfl hb⟩
  · refine (takes_any hr hnc hA' (Nat.le_trans hnc hcm) hlt (PutsO.of hx) hl (few_some hx hl)).mono fun e W' ⟨he, hb⟩ => ⟨_, he, law_post laidOut rfl (by kernel_rfl) rfl Try.underlying4 hW rfl hb⟩

theorem proved_WireTakes : Rows.WireTakesSaid :=
  OpenClaim.holds_of_wide 4 Try.f4 rfl rfl rfl rfl rfl rfl rfl ⟨rfl, rfl, rfl, rfl, rfl⟩ rfl rfl rfl rfl rfl (by kernel_rfl) Try.func4 (by kernel_rfl)
    (of_decide_eq_true (by kernel_rfl)) (by unfold Func.isWrapper; first | (rw [if_pos (by decide +kernel)]; kernel_rfl) | (rw [if_neg (by decide +kernel)]; exact ⟨rfl, rfl⟩))
    (fun os started H enc _ => lifted_WireTakes os started H enc)
#print axioms proved_WireTakes
end Go.Proofs.Ythmjfbefekicdaa
