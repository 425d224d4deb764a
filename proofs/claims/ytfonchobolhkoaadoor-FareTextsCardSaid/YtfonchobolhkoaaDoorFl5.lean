/- The law FareMany, of what fare's calls answer. -/
import Derived.Test.YtfonchobolhkoaaDoorFl4
namespace Go.Proofs.YtfonchobolhkoaaDoor
open Go.RowKit

theorem make_i64s (W : World) (N : Nat) (hN : N ≤ 100000) : ∃ W1, (Instr.makeSlice 22 (.int .i64 (N : Nat)) (.int .i64 (N : Nat))).run Tryd.prog W = .ok (.slice (some ⟨W.heap.size, 0, none⟩) N N) W1 ∧ RowI W1 W.heap.size (.slice (some ⟨W.heap.size, 0, none⟩) N N) (List.replicate N 0) ∧ Fr (fun _ => False) W W1 := by
  obtain ⟨i0, hi, hz0, hz1, hz2⟩ := info_parts infoL64
  have h := run_make (P := Tryd.prog) W 22 2 i0 (.int .i64 0) Tryd.underlying22 hi hz0 .i64 .i64 N N (by omega) (by omega) (by rw [hz2]; omega) (by omega)
  have hm : madeCells (Value.int .i64 0).cells (N * 1) = Array.replicate N (Value.int .i64 0) := by
    apply Array.ext
    · simp [madeCells]
    · intro i h1 h2
      simp [madeCells, Value.cells, Nat.mod_one]
  rw [hz1, Int.toNat_natCast, hm] at h
  refine ⟨_, h, ⟨by simp, .inr ⟨W.heap.size, N, Array.replicate N (Value.int .i64 0), by simp, Nat.le_refl _, ?_, by simp, by simp [maxLen]; omega, by simp, by simp⟩⟩, (Fr.refl _ W).alloc _⟩
  exact Blk.new W 2 (Array.replicate N (Value.int .i64 0))
set_option maxRecDepth 100000 in
set_option maxHeartbeats 2000000 in
theorem fmany (P : FareP) (n : Int) (q : Int) (w : World) (hvk : Vok w) : Calls Tryd.prog 7 #[.int .i64 n, .int .i64 q] w (Tru w) := by
  have HK := Lib.hid (fun W (fk : Fr (fun _ => False) w W) => fknown P W (hvk.keep fk))
  by_cases h0 : q < 0
  · clear hvk
    go_enter Tryd.func7, Tryd.ntmps7
    go_wp2_with fail
    refine (HK.out _ (Fr.refl _ _)).mono ?_
    rintro e w1 ⟨rfl, f1⟩
    have HF := Lib.hid f1
    clear f1
    go_wp2_with fail
    go_ret
    exact ⟨rfl, HF.out⟩
  · by_cases h1 : 1010 < q
    · clear hvk
      go_enter Tryd.func7, Tryd.ntmps7
      go_wp2_with fail
      refine (HK.out _ (Fr.refl _ _)).mono ?_
      rintro e w1 ⟨rfl, f1⟩
      have HF := Lib.hid f1
      clear f1
      go_wp2_with fail
      go_ret
      exact ⟨rfl, HF.out⟩
    · obtain ⟨N, rfl⟩ : ∃ N : Nat, q = N := ⟨q.toNat, by omega⟩
      have hN : N ≤ 1010 := by omega
      obtain ⟨W1, hmk, hrow, hfr⟩ := make_i64s w N (by omega)
      have HR := Lib.hid (And.intro hrow hfr)
      have HFS := Lib.hid (fun W v zs (h : IntsAt W v zs) (fk : Fr (fun _ => False) w W) => fsums P h (hvk.keep fk))
      clear hvk
      clear hrow hfr
      go_enter Tryd.func7, Tryd.ntmps7
      go_wp2_with fail
      clear hmk
      go_loopw [6] (fun x wr => ∃ k : Nat, x = .int .i64 k ∧ k ≤ N ∧ Hid (RowI wr w.heap.size (.slice (some ⟨w.heap.size, 0, none⟩) N N) (List.replicate k n ++ List.replicate (N - k) 0)) ∧ Hid (Fr (fun _ => False) w wr)) (fun x _ => N - (intOf x).toNat)
      case atStart => exact ⟨0, rfl, Nat.zero_le _, Lib.hid (by simpa using HR.out.1), Lib.hid HR.out.2⟩
      case round =>
        obtain ⟨k, rfl, hk, HO, HF⟩ := hrel
        by_cases hlt : k < N
        · have hz : (List.replicate k n ++ List.replicate (N - k) (0 : Int))[k]? = some 0 := by
            rw [List.getElem?_append_right (by simp), List.length_replicate, Nat.sub_self, List.getElem?_replicate, if_pos (by omega)]
          obtain ⟨g, c, e1, hd1⟩ := HO.out.cell hz
          obtain rfl : w.heap.size = g := by injection e1 with a b; injection a with a; injection a
          have hfz := HO.out.frozen (i := k)
          have hset : (List.replicate k n ++ List.replicate (N - k) (0 : Int)).set k n = List.replicate (k + 1) n ++ List.replicate (N - (k + 1)) 0 := by
            rw [List.set_append_right _ _ (by simp)]
            rw [show N - k = (N - (k + 1)) + 1 by omega, List.replicate_succ]
            simp [List.replicate_succ']
          have hs := HO.out.set (i := k) (by simp; omega) n
          rw [hset] at hs
          have HS := Lib.hid (And.intro hs (HF.out.setCell (p := ⟨w.heap.size, k, none⟩) (.inr (Nat.le_refl _)) (.int .i64 n)))
          have hk0 : (0 : Int) ≤ (k : Int) := by omega
          have hkm : (k : Int) < (N : Int) := by omega
          have HLT := Lib.hid hlt
          clear hz e1 hset hs hlt
          go_wp2_with fail
          refine ⟨⟨k + 1, by norm_cast, by have := HLT.out; omega, Lib.hid HS.out.1, Lib.hid HS.out.2⟩, ?_⟩
          simp only [intOf]
          have := HLT.out
          omega
        · obtain rfl : k = N := by omega
          have hI := HO.out.ints
          have HC := Lib.hid (HFS.out _ _ _ hI HF.out)
          have hki : ¬ (k : Int) < (k : Int) := by omega
          clear hlt hI
          go_wp2_with fail
          refine HC.out.mono ?_
          rintro e w2 ⟨rfl, f2⟩
          have HF2 := Lib.hid (HF.out.trans f2 (fun _ _ q => q))
          clear f2
          go_wp2_with fail
          go_ret
          exact ⟨rfl, HF2.out⟩
end Go.Proofs.YtfonchobolhkoaaDoor
