/- PoolNil. -/
import Derived.Test.YtpdfpnpkbknhnaaGreatR9
namespace Go.Proofs.YtpdfpnpkbknhnaaGreat
open Go.RowKit

theorem infoPp : (Tryz.prog.info? 31).map (fun i => (i.zero, i.size, i.bytes)) = some (some (.pointer none), 1, 8) := by kernel_rfl
theorem slice_of_pools (b : Nat) (w : World) : (Instr.buildSlice 66 2 #[(0, .pointer none), (1, .pointer (some ⟨b, 0, none⟩))]).run Tryz.prog w = .ok (.slice (some ⟨w.heap.size, 0, none⟩) 2 2) (w.alloc (.cells #[.pointer none, .pointer (some ⟨b, 0, none⟩)] 31)) := by
  obtain ⟨i0, hi, hz0, hz1, hz2⟩ := info_parts infoPp
  refine run_buildSlice w 66 31 2 _ _ i0 _ Tryz.underlying66 hi hz0 (by rw [hz1]; omega) (by rw [hz1]; omega) ?_
  rw [hz1]
  have hb : ((Array.range (2 * 1)).map ((Value.pointer none).cells[· % (Value.pointer none).cells.size]!)) = #[Value.pointer none, Value.pointer none] := by
    apply Array.ext
    · simp
    · intro i h1 h2
      simp at h1
      have h3 : i = 0 ∨ i = 1 := by simp at h2; omega
      rcases h3 with rfl | rfl <;> simp [Value.cells]
  rw [hb]
  simp [Instr.fill, Value.cells]
set_option maxRecDepth 100000 in
set_option maxHeartbeats 16000000 in
theorem nil_any (w : World) : Calls Tryz.prog 6 #[] w fun e w' => e = .returned (.bool true) ∧ Fr (fun _ => False) w w' := by
  obtain ⟨W1, hW1⟩ : ∃ W1, W1 = (w.alloc (.cells #[.pointer none, .int .i64 0, .int .i64 0, .pointer none, .map none, .map none, .slice none 0 0, .bool false] 65)).alloc (.cells #[.pointer none, .pointer (some ⟨w.heap.size, 0, none⟩)] 31) := ⟨_, rfl⟩
  have f1 : Fr (fun _ => False) w W1 := by rw [hW1]; exact ((Fr.refl _ w).alloc _).alloc _
  have hbz : Blk W1 w.heap.size 65 #[.pointer none, .int .i64 0, .int .i64 0, .pointer none, .map none, .map none, .slice none 0 0, .bool false] := by
    rw [hW1]
    exact (Blk.new w _ _).keep (F := fun _ => False) ((Fr.refl _ _).alloc _) (fun q => q)
  have hbl : Blk W1 (w.heap.size + 1) 31 #[.pointer none, .pointer (some ⟨w.heap.size, 0, none⟩)] := by
    rw [hW1]
    have := Blk.new (w.alloc (.cells #[.pointer none, .int .i64 0, .int .i64 0, .pointer none, .map none, .map none, .slice none 0 0, .bool false] 65)) 31 #[.pointer none, .pointer (some ⟨w.heap.size, 0, none⟩)]
    simpa using this
  obtain ⟨no, hno⟩ : ∃ no, no = nought 512 := ⟨_, rfl⟩
  have hnol : no.length = 512 := by rw [hno]; exact nought_len 512
  have HY := Lib.hid (And.intro hno (And.intro hnol (show Value.agg Tryz.zeroCells50 = av no by rw [hno]; exact zeroPgV)))
  have H0 := Lib.hid (And.intro f1 (And.intro hbz hbl))
  have hsl : (Instr.buildSlice 66 2 #[(0, .pointer none), (1, .pointer (some ⟨w.heap.size, 0, none⟩))]).run Tryz.prog (w.alloc (.cells #[.pointer none, .int .i64 0, .int .i64 0, .pointer none, .map none, .map none, .slice none 0 0, .bool false] 65)) = .ok (.slice (some ⟨w.heap.size + 1, 0, none⟩) 2 2) W1 := by
    rw [hW1]
    have := slice_of_pools w.heap.size (w.alloc (.cells #[.pointer none, .int .i64 0, .int .i64 0, .pointer none, .map none, .map none, .slice none 0 0, .bool false] 65))
    rw [show (w.alloc (.cells #[.pointer none, .int .i64 0, .int .i64 0, .pointer none, .map none, .map none, .slice none 0 0, .bool false] 65)).heap.size = w.heap.size + 1 by simp] at this
    exact this
  clear f1 hbz hbl hno hnol
  go_enter Tryz.func6, Tryz.ntmps6
  go_wp2_with fail
  go_loopw [3] (fun x wr => ∃ k : Nat, x = .int .i64 k ∧ k ≤ 2 ∧ Hid (Fr (fun _ => False) W1 wr)) (fun x _ => 2 - (intOf x).toNat)
  case atStart => exact ⟨0, rfl, Nat.zero_le _, Lib.hid (by rw [hW1]; exact Fr.refl _ _)⟩
  case round =>
    obtain ⟨k, rfl, hk, HF⟩ := hrel
    have hl0 : wr.cell? ⟨w.heap.size + 1, 0, none⟩ = some (.pointer none) := by rw [(H0.out.2.2.keep HF.out (fun q => q)).cell]; rfl
    have hl1 : wr.cell? ⟨w.heap.size + 1, 1, none⟩ = some (.pointer (some ⟨w.heap.size, 0, none⟩)) := by rw [(H0.out.2.2.keep HF.out (fun q => q)).cell]; rfl
    rcases (show k = 0 ∨ k = 1 ∨ k = 2 by omega) with rfl | rfl | rfl
    · have hN : ∀ w', Fr (fun _ => False) wr w' → Calls Tryz.prog 47 #[.pointer none] w' fun e w'' => e = .returned (.bool true) ∧ w' = w'' := fun w' f => plnone_nil w'
      have HN := Lib.hid hN
      have HGT := Lib.hid (plget_none hN 0)
      rw [← HY.out.1] at HGT
      clear hN
      go_wp2_with fail
      refine HGT.out.mono ?_
      rintro e w2 ⟨rfl, f2⟩
      obtain ⟨W3, hW3, hb3, hr3, f3, th3⟩ := put_arr w2 50 Tryz.zeroCells50 512 zeroPgCells no HY.out.2.1
      have f23 := f2.trans f3 (fun _ _ q => q)
      have HPU := Lib.hid (plput_none (fun w' f => HN.out w' (f23.trans f (fun _ _ q => q))) 0 no)
      rw [← HY.out.2.2] at HPU
      have H3 := Lib.hid (And.intro hW3 (And.intro th3 f23))
      clear f2 hW3 hb3 hr3 f3 th3 f23 HGT
      go_wp2_with (refine wpList_store_mid rfl 50 _ _ rfl w2.heap.size 0 (cellsB no).toArray rfl rfl H3.out.2.1 (by rw [infoPgS]; simp [cellsB_len, HY.out.2.1]) (all_oneCell_toArray (cellsB_one _)) ?_; rw [← H3.out.1])
      refine HPU.out.mono ?_
      rintro e w4 ⟨rfl, f4⟩
      have HF4 := Lib.hid (H3.out.2.2.trans f4 (fun _ _ q => q))
      have hN4 := HN.out w4 HF4.out
      have HC := Lib.hid (plct_none hN4)
      have HA := Lib.hid (plabort_none hN4)
      have HK := Lib.hid (plce_none hN4)
      have HCH := Lib.hid (plchanged_none hN4)
      have HDI := Lib.hid (pldirty_none hN4)
      have HCL := Lib.hid (plclean_none hN4)
      have HPG := Lib.hid (plpages_none hN4)
      have HRM := Lib.hid (plroom_none hN4)
      have HDD := Lib.hid (pldead_none hN4)
      clear f4 hN4 HPU
      go_wp2_with fail
      refine HC.out.mono ?_
      rintro e w5 ⟨rfl, rfl⟩
      go_wp2_with fail
      refine HA.out.mono ?_
      rintro e w5 ⟨rfl, rfl⟩
      go_wp2_with fail
      refine HK.out.mono ?_
      rintro e w5 ⟨rfl, rfl⟩
      go_wp2_with fail
      refine HCH.out.mono ?_
      rintro e w5 ⟨rfl, rfl⟩
      go_wp2_with fail
      refine HDI.out.mono ?_
      rintro e w5 ⟨rfl, rfl⟩
      go_wp2_with fail
      refine HCL.out.mono ?_
      rintro e w5 ⟨rfl, rfl⟩
      go_wp2_with fail
      refine HPG.out.mono ?_
      rintro e w5 ⟨rfl, rfl⟩
      go_wp2_with fail
      refine HRM.out.mono ?_
      rintro e w5 ⟨rfl, rfl⟩
      go_wp2_with fail
      refine HDD.out.mono ?_
      rintro e w5 ⟨rfl, rfl⟩
      go_wp2_with fail
      refine ⟨⟨1, rfl, by decide, Lib.hid (HF.out.trans HF4.out (fun _ _ q => q))⟩, ?_⟩
      simp [intOf]
    · have hN : ∀ w', Fr (fun _ => False) wr w' → Calls Tryz.prog 47 #[.pointer (some ⟨w.heap.size, 0, none⟩)] w' fun e w'' => e = .returned (.bool true) ∧ w' = w'' := fun w' f => plnone_zero (by rw [((H0.out.2.1.keep HF.out (fun q => q)).keep f (fun q => q)).cell]; rfl)
      have HN := Lib.hid hN
      have HGT := Lib.hid (plget_none hN 0)
      rw [← HY.out.1] at HGT
      clear hN
      go_wp2_with fail
      refine HGT.out.mono ?_
      rintro e w2 ⟨rfl, f2⟩
      obtain ⟨W3, hW3, hb3, hr3, f3, th3⟩ := put_arr w2 50 Tryz.zeroCells50 512 zeroPgCells no HY.out.2.1
      have f23 := f2.trans f3 (fun _ _ q => q)
      have HPU := Lib.hid (plput_none (fun w' f => HN.out w' (f23.trans f (fun _ _ q => q))) 0 no)
      rw [← HY.out.2.2] at HPU
      have H3 := Lib.hid (And.intro hW3 (And.intro th3 f23))
      clear f2 hW3 hb3 hr3 f3 th3 f23 HGT
      go_wp2_with (refine wpList_store_mid rfl 50 _ _ rfl w2.heap.size 0 (cellsB no).toArray rfl rfl H3.out.2.1 (by rw [infoPgS]; simp [cellsB_len, HY.out.2.1]) (all_oneCell_toArray (cellsB_one _)) ?_; rw [← H3.out.1])
      refine HPU.out.mono ?_
      rintro e w4 ⟨rfl, f4⟩
      have HF4 := Lib.hid (H3.out.2.2.trans f4 (fun _ _ q => q))
      have hN4 := HN.out w4 HF4.out
      have HC := Lib.hid (plct_none hN4)
      have HA := Lib.hid (plabort_none hN4)
      have HK := Lib.hid (plce_none hN4)
      have HCH := Lib.hid (plchanged_none hN4)
      have HDI := Lib.hid (pldirty_none hN4)
      have HCL := Lib.hid (plclean_none hN4)
      have HPG := Lib.hid (plpages_none hN4)
      have HRM := Lib.hid (plroom_none hN4)
      have HDD := Lib.hid (pldead_none hN4)
      clear f4 hN4 HPU
      go_wp2_with fail
      refine HC.out.mono ?_
      rintro e w5 ⟨rfl, rfl⟩
      go_wp2_with fail
      refine HA.out.mono ?_
      rintro e w5 ⟨rfl, rfl⟩
      go_wp2_with fail
      refine HK.out.mono ?_
      rintro e w5 ⟨rfl, rfl⟩
      go_wp2_with fail
      refine HCH.out.mono ?_
      rintro e w5 ⟨rfl, rfl⟩
      go_wp2_with fail
      refine HDI.out.mono ?_
      rintro e w5 ⟨rfl, rfl⟩
      go_wp2_with fail
      refine HCL.out.mono ?_
      rintro e w5 ⟨rfl, rfl⟩
      go_wp2_with fail
      refine HPG.out.mono ?_
      rintro e w5 ⟨rfl, rfl⟩
      go_wp2_with fail
      refine HRM.out.mono ?_
      rintro e w5 ⟨rfl, rfl⟩
      go_wp2_with fail
      refine HDD.out.mono ?_
      rintro e w5 ⟨rfl, rfl⟩
      go_wp2_with fail
      refine ⟨⟨2, rfl, by decide, Lib.hid (HF.out.trans HF4.out (fun _ _ q => q))⟩, ?_⟩
      simp [intOf]
    · clear hl0 hl1
      have HO1 := Lib.hid (plopen_nil wr 9 5)
      go_wp2_with fail
      refine HO1.out.mono ?_
      rintro e w2 ⟨rfl, rfl⟩
      have HNW := Lib.hid (anew_any wr (n := 100) (by decide) (by decide))
      go_wp2_with fail
      refine HNW.out.mono ?_
      rintro e w3 ⟨g, P, rfl, hd, f3⟩
      have hhd : isHd (newD 100).head = false := by
        have : (newD 100).head = nought 128 := rfl
        rw [this]
        exact nought_no_hd
      have HO2 := Lib.hid (plopen_nohd (z := 9) (fr := 5) hd (fun _ => rfl) (by decide) (by decide) (by decide) hhd (by decide) (by decide) (by decide))
      have H3 := Lib.hid (And.intro hd f3)
      clear hd f3 hhd HNW HO1
      go_wp2_with fail
      refine HO2.out.mono ?_
      rintro e w4 ⟨rfl, f4⟩
      have HO3 := Lib.hid (plopen_fr (n := 100) (by decide) (asec_any (H3.out.1.new f4)) 9 1 (by decide) (.inl (by decide)))
      have H4 := Lib.hid (H3.out.2.trans f4 (fun _ _ q => q))
      clear f4 HO2
      go_wp2_with fail
      refine HO3.out.mono ?_
      rintro e w5 ⟨rfl, rfl⟩
      have HFM := Lib.hid (plformat_nil w4 9)
      have HCT := Lib.hid (pcount_nil w4 9)
      rw [show pcnt 0 9 = 0 from rfl] at HCT
      have HKN := Lib.hid (known_any w4)
      go_wp2_with fail
      refine HFM.out.mono ?_
      rintro e w6 ⟨rfl, rfl⟩
      go_wp2_with fail
      refine HCT.out.mono ?_
      rintro e w6 ⟨rfl, rfl⟩
      go_wp2_with fail
      refine HKN.out.mono ?_
      rintro e w6 ⟨rfl, f6⟩
      have H6 := Lib.hid f6
      clear f6
      go_wp2_with fail
      go_ret
      exact ⟨rfl, ((H0.out.1.trans HF.out (fun _ _ q => q)).trans H4.out (fun _ _ q => q)).trans H6.out (fun _ _ q => q)⟩
end Go.Proofs.YtpdfpnpkbknhnaaGreat
