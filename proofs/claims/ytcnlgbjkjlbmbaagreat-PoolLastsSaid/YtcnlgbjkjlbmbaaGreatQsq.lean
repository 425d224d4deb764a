/- A page stored into a list of pages of one's own. -/
import Derived.Test.YtcnlgbjkjlbmbaaGreatQsp
namespace Go.Proofs.YtcnlgbjkjlbmbaaGreat
open Go.RowKit

set_option maxRecDepth 100000 in
theorem own_page {w : World} {base b c N i : Nat} {L : List (List UInt8)} {x : List UInt8} (h : w.ownsRow base 50 512 (.slice (some ⟨b, 0, none⟩) N c) N (cellsB (flatP L))) (h5 : ∀ y ∈ L, y.length = 512) (hN : L.length = N) (hi : i < N) (hx : x.length = 512) :
 w.there b (i * 512) 512 ∧ (w.setCells b (i * 512) (cellsB x)).ownsRow base 50 512 (.slice (some ⟨b, 0, none⟩) N c) N (cellsB (flatP (L.set i x))) ∧ Fr (fun k => k = b) w (w.setCells b (i * 512) (cellsB x)) := by
 obtain ⟨hl, h2⟩ := h
 rcases h2 with ⟨_, e⟩ | ⟨g, cap, cur, e, hbg, hg, hnc, hcm, hcs, htk⟩
 · omega
 · have e1 : g = b ∧ cap = c := by
    injection e with q1 q2 q3
    injection q1 with q1
    injection q1 with q1
    exact ⟨q1.symm, q3.symm⟩
   obtain ⟨rfl, rfl⟩ := e1
   have hb : Blk w g 50 cur := hg
   have hc2 : N * 512 ≤ cap * 512 := Nat.mul_le_mul_right _ hnc
   have hi2 : i * 512 + 512 ≤ N * 512 := by omega
   obtain ⟨cs', q1, q2, q3, q4⟩ := hb.range_set (vs := cellsB x) (o := i * 512) (by rw [cellsB_len, hx]; omega)
   refine ⟨hb.there (by omega), ⟨?_, .inr ⟨g, cap, cs', rfl, hbg, q1, hnc, hcm, by rw [q2]; exact hcs, ?_⟩⟩, Fr.setCells (F := fun k => k = g) (.inl rfl) (Fr.refl _ _)⟩
   · rw [cellsB_len, flatP_len (fun y hy => by
      rcases List.mem_or_eq_of_mem_set hy with q | q
      · exact h5 y q
      · rw [q]; exact hx), List.length_set, hN]
   · rw [← flatP_patch h5 (by omega) hx]
     have hfl : (flatP L).length = N * 512 := by rw [flatP_len h5, hN]
     apply List.ext_getElem?
     intro j
     rw [List.getElem?_take]
     by_cases hj : j < N * 512
     · rw [if_pos hj, Array.getElem?_toList]
       have hold : ∀ j, j < N * 512 → cur[j]? = (cellsB (flatP L))[j]? := fun j hj => by
        rw [← htk, List.getElem?_take, if_pos hj, Array.getElem?_toList]
       unfold patch cellsB
       by_cases h1 : j < i * 512
       · rw [q4 j (.inl h1), hold j hj]
         unfold cellsB
         rw [List.map_append, List.getElem?_append_left (by simp; omega), List.getElem?_map, List.getElem?_map, List.getElem?_take, if_pos h1]
       · by_cases h3 : j < i * 512 + 512
         · obtain ⟨u, hu⟩ : ∃ u, (cellsB x)[j - i * 512]? = some u := ⟨_, List.getElem?_eq_getElem (by rw [cellsB_len, hx]; omega)⟩
           have := q3 (j - i * 512) u hu
           rw [show i * 512 + (j - i * 512) = j by omega] at this
           rw [this, List.map_append, List.getElem?_append_right (by simp; omega), List.map_append, List.getElem?_append_left (by simp [hx]; omega)]
           unfold cellsB at hu
           rw [show j - (((flatP L).take (i * 512)).map fun b => Value.int .u8 (b.toNat : Nat)).length = j - i * 512 by simp; omega]
           exact hu.symm
         · rw [q4 j (.inr (by rw [cellsB_len, hx]; omega)), hold j hj]
           unfold cellsB
           rw [List.map_append, List.getElem?_append_right (by simp; omega), List.map_append, List.getElem?_append_right (by simp [hx]; omega), List.getElem?_map, List.getElem?_map, List.getElem?_drop]
           congr 2
           simp [hx]
           omega
     · rw [if_neg hj, List.getElem?_eq_none (by rw [cellsB_len, patch_len (by rw [hx, hfl]; omega), hfl]; omega)]
end Go.Proofs.YtcnlgbjkjlbmbaaGreat

