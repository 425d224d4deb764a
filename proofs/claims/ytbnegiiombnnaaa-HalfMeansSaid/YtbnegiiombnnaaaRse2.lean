/- Arguments that came in, opened: sectors, and lists of them. -/
import Derived.Test.YtbnegiiombnnaaaRop
import Derived.Test.YtbnegiiombnnaaaApl
import Derived.OpenShut
namespace Go.Proofs.Ytbnegiiombnnaaa
open Go.ChangeShapes Go.WideShapes Go.ChangeAt Go.RowKit

theorem cellsSec : Try.prog.cellsOf 37 = 128 := by kernel_rfl
theorem okWide_sector {w : World} {r : Reach} {base : Nat} {v : Value} (h : Value.okWide Try.prog w r base 37 v) : ∃ cs, v = .agg cs ∧ cs.size = 128 := by
  simp only [Value.okWide, Try.underlying37] at h
  obtain ⟨cs, h1, h2, _⟩ := h
  exact ⟨cs, h1, by rw [h2, cellsSec]⟩
section
variable {H : Type} {enc : TypeId × Value → H} {w : World}
theorem open_sec {fuel : Nat} {cs : List Value} {x : DataW H × List MemPlace} (h : DataW.trod enc Try.prog w 0 (fun _ => true) true fuel 37 cs = some x) : ∃ s : List UInt8, s.length = 128 ∧ cs = cellsB s := by
  obtain ⟨xs, m, _, _, hlen, hxl, hel⟩ := DataW.trod_array Try.underlying37 h
  rw [cellsSec] at hlen
  obtain ⟨s, hs, hq⟩ := list_of (Q := fun i (c : UInt8) => cs[i]? = some (.int .u8 (c.toNat : Int))) 128 (fun i hi => by
    have h1 := hel i hi
    rw [cells5, Nat.mul_one] at h1
    have hx : xs[i]? = some (xs[i]'(by omega)) := List.getElem?_eq_getElem _
    rw [hx] at h1
    have hc : (cs.drop i).take 1 = [cs[i]'(by omega)] := by
      rw [List.drop_eq_getElem_cons (by omega : i < cs.length), List.take_succ_cons, List.take_zero]
    rw [hc] at h1
    obtain ⟨z, e0, _, wz⟩ := DataW.trod_int Try.underlying5 h1
    have hz := u8_of_wf wz
    injection e0 with e0
    refine ⟨UInt8.ofNat z.toNat, ?_⟩
    rw [List.getElem?_eq_getElem (by omega), e0, UInt8.toNat_ofNat']
    congr 2
    omega)
  refine ⟨s, hs, ?_⟩
  apply List.ext_getElem?
  intro i
  by_cases hi : i < 128
  · have := hq i s[i] (List.getElem?_eq_getElem (by omega))
    rw [this]
    simp [cellsB, hs, hi]
  · rw [List.getElem?_eq_none (by omega), List.getElem?_eq_none (by rw [cellsB_len]; omega)]
theorem open_sector {v : Value} {d : DataW H} {p : List MemPlace} (hval : ∃ cs, v = .agg cs ∧ cs.size = 128) (h : DataW.Trod enc Try.prog w 0 (fun _ => true) true 37 v d p) : ∃ s : List UInt8, s.length = 128 ∧ v = av s := by
  obtain ⟨cs, rfl, _⟩ := hval
  obtain ⟨fuel, hf⟩ := h
  obtain ⟨s, hs, e⟩ := open_sec hf
  refine ⟨s, hs, ?_⟩
  have e' : cs.toList = cellsB s := e
  show Value.agg cs = Value.agg (cellsB s).toArray
  rw [← e']
/-- A list of sectors that came in. -/
theorem open_secs {v : Value} {d : DataW H} {p : List MemPlace} (hval : ∃ a len cap, v = .slice a len cap) (h : DataW.Trod enc Try.prog w 0 (fun _ => true) true 27 v d p) : ∃ ss, SecV w v ss := by
  obtain ⟨a0, len, cap, rfl⟩ := hval
  obtain ⟨fuel, hf⟩ := h
  rcases Deep.open_slice Try.underlying27 hf with ⟨hcs, _⟩ | ⟨a, len', cap', m, n, D, Pl, hcs, _, hl, hcm, hm, _, hi⟩
  · simp [Value.cells] at hcs
    obtain ⟨rfl, rfl, rfl⟩ := hcs
    exact ⟨[], none, 0, rfl, Nat.le_refl _, Nat.zero_le _, fun q => by simp at q⟩
  · simp [Value.cells] at hcs
    obtain ⟨rfl, rfl, rfl⟩ := hcs
    simp only [if_true] at hm
    rcases Nat.eq_zero_or_pos len with rfl | hpos
    · exact ⟨[], _, cap, rfl, Nat.zero_le _, hcm, fun q => by simp at q⟩
    · obtain ⟨ss, hsl, hs⟩ := list_of (Q := fun i (s : List UInt8) => s.length = 128 ∧ ∀ j u, (cellsB s)[j]? = some u → w.cell? (a.add (i * 128 + j)) = some u) len (fun i hil => by
        obtain ⟨cs', hc, ht⟩ := hi i (by omega)
        rw [cellsSec] at hc
        obtain ⟨s, hs, rfl⟩ := open_sec ht
        obtain ⟨_, hlen, hat⟩ := World.cells?_some hc
        refine ⟨s, hs, fun j u hu => ?_⟩
        have hj : j < 128 := by
          have := (List.getElem?_eq_some_iff.1 hu).1
          rwa [cellsB_len, hs] at this
        have := hat j hj
        rw [add_add] at this
        rw [this, hu])
      obtain ⟨hs0, hc0⟩ := hs 0 ss[0] (List.getElem?_eq_getElem (by omega))
      have h00 := hc0 0 ((cellsB ss[0])[0]'(by rw [cellsB_len]; omega)) (List.getElem?_eq_getElem _)
      have h000 : w.cell? a = some ((cellsB ss[0])[0]'(by rw [cellsB_len]; omega)) := by
        have e : a.add (0 * 128 + 0) = a := by simp [Addr.add]
        rwa [e] at h00
      have hpl := plain_addr (a := a) h000
      obtain ⟨b, off, sp⟩ := a
      obtain rfl : sp = none := by injection hpl
      subst hsl
      refine ⟨ss, _, cap, rfl, hl, hcm, fun _ => ⟨b, off, rfl, fun i s his => ?_⟩⟩
      obtain ⟨q0, q1⟩ := hs i s his
      refine ⟨q0, fun j u hu => ?_⟩
      have := q1 j u hu
      rw [add_plain, ← Nat.add_assoc] at this
      exact this
end
end Go.Proofs.Ytbnegiiombnnaaa
