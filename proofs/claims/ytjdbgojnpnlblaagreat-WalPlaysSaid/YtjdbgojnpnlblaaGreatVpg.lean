/- couponlaw04.page, record. -/
import Derived.Test.YtjdbgojnpnlblaaGreatVog
namespace Go.Proofs.YtjdbgojnpnlblaaGreat
open Go.RowKit

def pageOf (b : List UInt8) : List UInt8 := if b = [] then nought 512 else (List.range 512).map fun i => b.getD (i % b.length) 0
theorem pageOf_len (b : List UInt8) : (pageOf b).length = 512 := by
  unfold pageOf
  split
  · exact nought_len _
  · rw [List.length_map, List.length_range]
set_option maxRecDepth 100000 in
set_option maxHeartbeats 1000000 in
theorem page_any {w : World} {A : Option Addr} {n c : Nat} {b : List UInt8} (hr : Rd w A n b) (hn : n ≤ 9223372036854775807) : Calls Tryz.prog 62 #[.slice A n c] w fun e w' => e = .returned (av (pageOf b)) ∧ Fr (fun _ => False) w w' := by
  obtain ⟨z, hz⟩ : ∃ z, z = pageOf b := ⟨_, rfl⟩
  rw [← hz]
  have hzl : z.length = 512 := hz ▸ pageOf_len b
  have hzk : ∀ k c, 0 < n → k < 512 → b[k % n]? = some c → z[k]? = some c := fun k c h0 hk hc => by
    have hl := hr.len
    have hne : ¬ b = [] := by intro e; rw [e] at hl; simp at hl; omega
    rw [hz]
    unfold pageOf
    rw [if_neg hne, hl]
    simp [hk, hc]
  have hz0 : n = 0 → z = nought 512 := fun h0 => by
    have hl := hr.len
    have hb : b = [] := List.eq_nil_of_length_eq_zero (by omega)
    rw [hz, hb]
    rfl
  have HZ := Lib.hid (And.intro hzl (And.intro hzk (And.intro hz0 hr)))
  clear hz hzl hzk hz0 hr
  have hb0 := Blk.new w 117 (cellsB (nought 512)).toArray
  have hf0 : Fr (fun _ => False) w (w.alloc (.cells (cellsB (nought 512)).toArray 117)) := (Fr.refl _ _).alloc _
  have HB := Lib.hid (And.intro hb0 hf0)
  clear hb0 hf0
  go_enter Tryz.func62, Tryz.ntmps62
  go_wp2_with (refine wpList_zero rfl 117 rfl zeroPage ?_)
  generalize w.alloc (.cells (cellsB (nought 512)).toArray 117) = w1 at *
  go_loopw [3] (fun i wr => ∃ k : Nat, i = .int .i64 k ∧ k ≤ 512 ∧ (n = 0 → k = 0) ∧ Hid (Blk wr w.heap.size 117 (cellsB (patch (nought 512) 0 (z.take k))).toArray ∧ Fr (fun _ => False) w wr)) (fun i _ => 512 - (intOf i).toNat)
  case atStart => exact ⟨0, rfl, Nat.zero_le _, fun _ => rfl, Lib.hid (by simpa [patch] using HB.out)⟩
  case round =>
    obtain ⟨k, rfl, hk, hk0, HR⟩ := hrel
    clear HB
    have hfin : ∀ W, Blk W w.heap.size 117 (cellsB z).toArray → W.rangeAt w.heap.size 0 (cellsB z) := fun W h => by
      have := h.range 0 512
      rwa [List.drop_zero, List.take_of_length_le (Nat.le_of_eq HZ.out.1)] at this
    by_cases h0 : n = 0
    · have hk9 := hk0 h0
      subst hk9
      have hzz := HZ.out.2.2.1 h0
      have hbz : Blk wr w.heap.size 117 (cellsB z).toArray := by
        have q := HR.out.1
        rw [List.take_zero] at q
        rw [hzz]
        simpa [patch] using q
      have hrg := hfin wr hbz
      have HBZ := Lib.hid hbz
      subst h0
      clear hbz hzz
      go_wp2_with (first
        | (refine wpList_load_mid rfl 117 _ rfl w.heap.size 0 rfl (cellsB z) _ hrg Tryz.underlying117 rfl (by rw [infoPage, cellsB_len, HZ.out.1]) ?_)
        | (refine wpList_store_mid rfl 117 _ _ rfl w.heap.size 0 (cellsB z).toArray rfl rfl (HBZ.out.there (by simp)) (by rw [infoPage]; simp [cellsB_len, HZ.out.1]) (all_oneCell_toArray (cellsB_one _)) ?_))
      refine bodyPost_ret (results_cell_row rfl _ _ w.heap.size 117 (cellsB z).toArray (0, 0) _ rfl ?_ Tryz.underlying117 rfl (by rw [infoPage]; simp [cellsB_len, HZ.out.1])) rfl ?_
      · have := HBZ.out.over (o := 0) (m := z) (by omega)
        rw [patch_all rfl] at this
        exact this
      · exact ⟨rfl, Fr.setCells (.inr (Nat.le_refl _)) HR.out.2⟩
    · by_cases hlt : k < 512
      · obtain ⟨j, hj⟩ : ∃ j, j = k % n := ⟨_, rfl⟩
        have hjn : j < n := by rw [hj]; exact Nat.mod_lt _ (by omega)
        have hrm : ((k : Int) % (n : Int)) = (j : Int) := by rw [hj]; rfl
        obtain ⟨ad, q, rfl, hq, hcell⟩ := (HZ.out.2.2.2.keep HR.out.2 (fun _ _ q => q)).at_ hjn
        have hzq := HZ.out.2.1 k q (by omega) hlt (by rw [← hj]; exact hq)
        have hml : (z.take k).length = k := by rw [List.length_take, HZ.out.1]; omega
        have hpl : (patch (nought 512) 0 (z.take k)).length = 512 := by rw [patch_len (by rw [nought_len, hml]; omega), nought_len]
        have hts : z.take (k + 1) = z.take k ++ [q] := by rw [List.take_add_one, hzq]; rfl
        have hcb : ∃ v, wr.cell? ⟨w.heap.size, k, none⟩ = some v := by
          rw [HR.out.1.cell]
          exact ⟨_, Array.getElem?_eq_getElem (by simp [cellsB_len, hpl]; omega)⟩
        obtain ⟨vb, hvb⟩ := hcb
        have hfb := HR.out.1.frozen k
        have hi0 : (0 : Int) ≤ (k : Int) := by omega
        have hi1 : (k : Int) < 512 := by omega
        have hj0 : (0 : Int) ≤ (j : Int) := by omega
        have hj1 : (j : Int) < (n : Int) := by omega
        have hn0 : ((n : Int) == 0) = false := by rw [beq_eq_false_iff_ne]; omega
        have hn1 : (0 : Int) < (n : Int) := by omega
        have HS := Lib.hid (And.intro hml hts)
        clear hpl hts hml hzq hq hj
        go_wp2_with fail
        have h1 := HR.out.1.one (q := q) (by rw [nought_len, HS.out.1]; omega)
        rw [HS.out.1, Nat.zero_add, ← HS.out.2] at h1
        exact ⟨⟨k + 1, by go_num, hlt, fun q => absurd q h0, Lib.hid ⟨h1, HR.out.2.setCell (p := ⟨w.heap.size, k, none⟩) (.inr (Nat.le_refl _)) _⟩⟩, by simp [intOf]; omega⟩
      · have hk9 : k = 512 := by omega
        have hbz : Blk wr w.heap.size 117 (cellsB z).toArray := by
          have q := HR.out.1
          rw [hk9, List.take_of_length_le (by rw [HZ.out.1]; omega), patch_all (by rw [nought_len, HZ.out.1])] at q
          exact q
        have hrg := hfin wr hbz
        have HBZ := Lib.hid hbz
        have hni : ¬ ((k : Int) < 512) := by omega
        clear hbz hk9
        go_wp2_with (first
          | (refine wpList_load_mid rfl 117 _ rfl w.heap.size 0 rfl (cellsB z) _ hrg Tryz.underlying117 rfl (by rw [infoPage, cellsB_len, HZ.out.1]) ?_)
          | (refine wpList_store_mid rfl 117 _ _ rfl w.heap.size 0 (cellsB z).toArray rfl rfl (HBZ.out.there (by simp)) (by rw [infoPage]; simp [cellsB_len, HZ.out.1]) (all_oneCell_toArray (cellsB_one _)) ?_))
        refine bodyPost_ret (results_cell_row rfl _ _ w.heap.size 117 (cellsB z).toArray (0, 0) _ rfl ?_ Tryz.underlying117 rfl (by rw [infoPage]; simp [cellsB_len, HZ.out.1])) rfl ?_
        · have := HBZ.out.over (o := 0) (m := z) (by omega)
          rw [patch_all rfl] at this
          exact this
        · exact ⟨rfl, Fr.setCells (.inr (Nat.le_refl _)) HR.out.2⟩
end Go.Proofs.YtjdbgojnpnlblaaGreat
