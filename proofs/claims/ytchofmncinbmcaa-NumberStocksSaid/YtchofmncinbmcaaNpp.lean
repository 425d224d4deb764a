/- The calls of number, as the chapter says; arguments of the laws. -/
import Derived.Test.YtchofmncinbmcaaNin
import Derived.Test.YtchofmncinbmcaaNla
import Derived.Test.YtchofmncinbmcaaNap
import Derived.Test.YtchofmncinbmcaaNte
import Derived.Deep.Strs
namespace Go.Proofs.Ytchofmncinbmcaa
open Go.ChangeShapes Go.WideShapes Go.ChangeAt Go.RowKit

theorem numP : NumP where
  make := fun c s w => (nmake_any c s w).mono fun _ _ ⟨a, b⟩ => ⟨a, b ▸ Fr.refl _ _⟩
  check := fun n w hn => (ncheck_any n hn w).mono fun _ _ ⟨a, b⟩ => ⟨a, b ▸ Fr.refl _ _⟩
  carrier := fun n w hn => (ncar_any n hn w).mono fun _ _ ⟨a, b⟩ => ⟨a, b ▸ Fr.refl _ _⟩
  serial := fun n w hn => (nser_any n hn w).mono fun _ _ ⟨a, b⟩ => ⟨a, b ▸ Fr.refl _ _⟩
  text := fun n w hn => ntext_any n hn w
  of_ := fun s w _ => nof_any s w
theorem numS : NumS where
  locator := fun s w hs => nlocator_any s w hs
  in_ := fun c f k n w hr hn => nin_any c f k n w hr hn
theorem nat_of_wf {a : Int} (h : (Lit.int .u64 a).wf = true) : ∃ n : Nat, a = n ∧ n < 18446744073709551616 := by
  have hx : 0 ≤ a ∧ a ≤ 18446744073709551615 := by simpa [Lit.wf, IntKind.min, IntKind.max, IntKind.signed, IntKind.bits] using h
  exact ⟨a.toNat, by omega, by omega⟩
theorem byte_of_wf {a : Int} (h : (Lit.int .u8 a).wf = true) : ∃ c : UInt8, a = (c.toNat : Int) := by
  have hx : 0 ≤ a ∧ a ≤ 255 := by simpa [Lit.wf, IntKind.min, IntKind.max, IntKind.signed, IntKind.bits] using h
  refine ⟨UInt8.ofNat a.toNat, ?_⟩
  rw [UInt8.toNat_ofNat']
  omega
theorem i64_of_wf {a : Int} (h : (Lit.int .i64 a).wf = true) : -9223372036854775808 ≤ a ∧ a ≤ 9223372036854775807 := by
  simpa [Lit.wf, IntKind.min, IntKind.max, IntKind.signed, IntKind.bits] using h
theorem cellsStk : Try.prog.cellsOf 43 = 3 := by kernel_rfl
theorem cellsInt : Try.prog.cellsOf 3 = 1 := by kernel_rfl
theorem undStock : Try.prog.underlying 43 = some (.struct #[⟨"Carrier", 3, 0, false, "", "", 0⟩, ⟨"First", 3, 1, false, "", "", 8⟩, ⟨"Count", 3, 2, false, "", "", 16⟩]) := Try.underlying43
theorem okWide_stock {w : World} {r : Reach} {base : Nat} {v : Value} (h : Value.okWide Try.prog w r base 43 v) : ∃ cs, v = .agg cs := by
  simp only [Value.okWide, Try.underlying43] at h
  obtain ⟨cs, h1, _⟩ := h
  exact ⟨cs, h1⟩
section
variable {H : Type} {enc : TypeId × Value → H} {w : World}
theorem open_stock {v : Value} {d : DataW H} {p : List MemPlace} (hval : ∃ cs, v = .agg cs) (h : DataW.Trod enc Try.prog w 0 (fun _ => true) true 43 v d p) : ∃ c f k : Int, v = stV c f k ∧ Hid (InR f k) := by
  obtain ⟨cs, rfl⟩ := hval
  obtain ⟨fuel, hf⟩ := h
  have hf' : DataW.trod enc Try.prog w 0 (fun _ => true) true fuel 43 cs.toList = some (d, p) := hf
  obtain ⟨y0, y1, y2, n, _, hlen, t0, t1, t2⟩ := Deep.trod_struct3 undStock hf'
  rw [cellsStk] at hlen
  obtain ⟨l⟩ := cs
  match l, hlen with
  | [c0, c1, c2], _ =>
    simp only [cellsInt, List.drop_zero, List.drop_succ_cons, List.take_succ_cons, List.take_zero] at t0 t1 t2
    obtain ⟨z0, e0, _, w0⟩ := DataW.trod_int Try.underlying3 t0
    obtain ⟨z1, e1, _, w1⟩ := DataW.trod_int Try.underlying3 t1
    obtain ⟨z2, e2, _, w2⟩ := DataW.trod_int Try.underlying3 t2
    injection e0 with e0
    injection e1 with e1
    injection e2 with e2
    subst e0 e1 e2
    have b1 := i64_of_wf w1
    have b2 := i64_of_wf w2
    exact ⟨z0, z1, z2, rfl, Lib.hid ⟨by omega, by omega⟩⟩
end
end Go.Proofs.Ytchofmncinbmcaa
