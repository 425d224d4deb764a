/- The landed status' rows: turned about; is one of them none of the nine? -/
import Derived.Test.YthffnepfnadakaaSqs
import Derived.Test.YthffnepfnadakaaLps
namespace Go.Proofs.Ythffnepfnadakaa
open Go.RowKit Go.Sort Go.Shelf

theorem put_take {α : Type} [Inhabited α] (enc : α → Value) (cur : Array Value) (ts : List α) (n : Nat) (hn : n ≤ ts.length) (h : ts.length ≤ cur.size) : (putCells enc 0 ts.toArray cur).toList.take n = (ts.take n).map enc := by
  apply List.ext_getElem?
  intro j
  by_cases hj : j < n
  · rw [List.getElem?_take_of_lt hj, Array.getElem?_toList, List.getElem?_map, List.getElem?_take_of_lt hj]
    simp [putCells, show j < ts.length by omega, show j < cur.size by omega]
  · rw [List.getElem?_take_eq_none (by omega), List.getElem?_eq_none (by simp; omega)]
theorem prev_any {w : World} {B : Nat} {v : Value} {l : List Int} (h : RowS w B v l) (hn : l ≠ []) :
    Calls Try.prog 30 #[v] w fun e w' => e = .returned (.tuple #[]) ∧ RowS w' B v l.reverse ∧ Fr (fun k => v.ownBlock = some k) w w' := by
  obtain ⟨h1, ⟨rfl, h0⟩ | ⟨g, cap, cur, rfl, hb, hg, hc1, hc2, hc3, hc4⟩⟩ := h
  · exact absurd (List.length_eq_zero_iff.1 h0) hn
  · rw [Nat.mul_one] at hc4 hc3
    have hH : Holds (Value.int .i64) w g 0 l.toArray := fun j hj => by
      have hjl : j < l.length := by simpa using hj
      have hcell : w.cell? ⟨g, 0 + j, none⟩ = cur[j]? := by rw [Nat.zero_add]; simp [World.cell?, hg]
      refine ⟨?_, by simp [World.frozen?, hg]⟩
      have h5 : (cur.toList.take l.length)[j]? = (l.map (Value.int .i64))[j]? := by rw [hc4]
      rw [List.getElem?_take_of_lt hjl, Array.getElem?_toList, List.getElem?_map, List.getElem?_eq_getElem hjl] at h5
      rw [hcell, h5]
      simp [hjl]
    have hcl := AnyE.slices_Reverse (α := Int) (ρ := Try.layRev_ren) Try.layRev (Value.int .i64) (fun _ => rfl) g 0 cap l w hH (by simp only [maxLen] at hc2; omega)
    refine hcl.mono ?_
    rintro e w' ⟨rfl, q, rfl⟩
    refine ⟨rfl, ⟨by simp, .inr ⟨g, cap, putCells (Value.int .i64) 0 l.reverse.toArray cur, by simp, hb, ?_, by simpa using hc1, hc2, by simp [putCells, hc3], ?_⟩⟩, ?_⟩
    · simp [putRow, mapBlock, Sort.ahead, Array.getElem?_modify, hg, onCells]
    · rw [Nat.mul_one, put_take (Value.int .i64) cur l.reverse _ (Nat.le_refl _) (by simp; omega), List.take_length]
    · refine ⟨rfl, rfl, rfl, by simp [putRow, mapBlock, Sort.ahead], fun k hk hne => ?_⟩
      have : g ≠ k := fun e => hne (by rw [e]; rfl)
      simp [putRow, mapBlock, Sort.ahead, Array.getElem?_modify, this]
theorem pcont_any {w : World} {v : Value} {zs : List Int} (hv : IntsAt w v zs) (hl : zs.length ≤ 100000) :
    Calls Try.prog 27 #[v, .func (.func 28) #[] #[]] w fun e w' => e = .returned (.bool (!zs.all mayS)) ∧ Fr (fun _ => False) w w' := by
  obtain ⟨A, c, rfl, hm, hA⟩ := hv
  rcases Nat.eq_zero_or_pos zs.length with h0 | h0
  · have hz : zs = [] := List.length_eq_zero_iff.1 h0
    subst hz
    refine (AnyE.slices_ContainsFunc_empty (ρ := Try.layCon_ren) Try.layCon A c (.func (.func 28) #[] #[]) w).mono ?_
    rintro e w' ⟨rfl, rfl⟩
    exact ⟨rfl, Fr.refl _ _⟩
  · obtain ⟨b, off, rfl, hc⟩ := hA h0
    have hp : PredAt Try.prog 28 #[] (Value.int .i64) (fun z => !mayS z) w := fun W z hW => (pmayNot_any z W).mono (fun e w' h => ⟨h.1, 0, by rw [h.2]; rfl⟩)
    refine (AnyE.slices_ContainsFunc (ρ := Try.layCon_ren) Try.layCon (Value.int .i64) (fun z => !mayS z) 28 #[] (enters_of Try.func28 (by kernel_rfl) rfl) b off zs.length c zs w hp (Nat.le_refl _) (by omega) (fun j hj => ?_)).mono ?_
    · rw [hc j zs[j]! (by rw [getElem!_pos zs j hj]; exact List.getElem?_eq_getElem hj)]
    · rintro e w' ⟨rfl, q, rfl⟩
      refine ⟨?_, ⟨rfl, rfl, rfl, Nat.le_refl _, fun k _ _ => rfl⟩⟩
      rw [List.take_length]
      congr 2
      rw [List.not_all_eq_any_not]
end Go.Proofs.Ythffnepfnadakaa
