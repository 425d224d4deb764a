/- changed. -/
import Derived.Test.YtijdbngjnhhheaaPpa
import Derived.Test.YtijdbngjnhhheaaPfi
import Derived.Laws.MakeOwn
namespace Go.Proofs.Ytijdbngjnhhheaa
open Go.RowKit

set_option maxRecDepth 100000 in
theorem infoCellAll : (Try.prog.info? 70).map (fun i => (i.zero, i.size, i.bytes)) = some (some (.agg #[.bool false, .slice none 0 0]), 2, 32) := by kernel_rfl
set_option maxRecDepth 100000 in
theorem make_cells (N : Nat) (hN : N ≤ 1000) : ∃ CS : Array Value, CS.size = N * 2 ∧ ∀ W, (Instr.makeSlice 93 (.int .i64 (N : Nat)) (.int .i64 (N : Nat))).run Try.prog W = .ok (.slice (some ⟨W.heap.size, 0, none⟩) N N) (W.alloc (.cells CS 70)) := by
  obtain ⟨i0, hi, hz0, hz1, hz2⟩ := info_parts infoCellAll
  refine ⟨_, ?_, fun W => by
    have := run_make W 93 70 i0 _ Try.underlying93 hi hz0 .i64 .i64 (N : Int) (N : Int) (by omega) (by omega) (by rw [hz2]; omega) (by omega)
    rw [hz1] at this
    exact this⟩
  rw [size_madeCells]
  simp
section
variable {w : World} {P : Nat} {x : PD}
set_option maxRecDepth 100000 in
theorem cellV_rec (h : PW w P x) (k : x.Ok) {i : Nat} {o : Rec} (hi : x.s[i]? = some o) : ∃ b0 A0 n0 c0, cellV P x.s i = .agg #[.bool b0, .slice A0 n0 c0] ∧ RecV w o (.bool b0) (.slice A0 n0 c0) := by
  cases o with
  | none => exact ⟨false, none, 0, 0, by simp [cellV, hi], ⟨rfl, rfl⟩⟩
  | some b =>
    have h1 := tot_snoc hi
    have h2 := tot_take_le x.s (i + 1)
    have h3 := k.sz
    simp only [rl, Option.getD_some] at h1
    have e : 512 - tot (x.s.take i) - (512 - tot (x.s.take (i + 1))) = b.length := by omega
    refine ⟨true, some ⟨P, if 512 - tot (x.s.take i) = 512 - tot (x.s.take (i + 1)) then 0 else 512 - tot (x.s.take (i + 1)), none⟩, b.length, b.length, ?_, ⟨rfl, _, _, rfl, ?_⟩⟩
    · simp only [cellV, hi]
      unfold partV
      rw [e]
    · have := rd_partV (P := P) (o := 512 - tot (x.s.take (i + 1))) (p := 512 - tot (x.s.take i)) h (by omega) (by rw [k.len]; omega)
      rw [e, bytes_rec k hi] at this
      exact this
set_option maxRecDepth 100000 in
set_option maxHeartbeats 4000000 in
theorem changed_in (h : PW w P x) (k : x.Ok) {i m : Nat} (hm : m = x.s.length) (him : i < m) {o : Rec} {b1 : Bool} {A1 : Option Addr} {n1 k1 : Nat} (hu : RecV w o (.bool b1) (.slice A1 n1 k1)) (hsz : 12 + 4 * (trim (putS x.s i o)).length + tot (trim (putS x.s i o)) ≤ 512) :
    Calls Try.prog 38 #[.pointer (some ⟨P, 0, none⟩), .int .i64 i, .agg #[.bool b1, .slice A1 n1 k1]] w fun e w' => e = .returned (av (PD.mk x.kind x.next (trim (putS x.s i o))).bytes) ∧ Fr (fun _ => False) w w' := by
  obtain ⟨L, hL⟩ : ∃ L, L = (PD.mk x.kind x.next (trim (putS x.s i o))).bytes := ⟨_, rfl⟩
  rw [← hL]
  have hll : L.length = 512 := by rw [hL]; unfold PD.bytes; exact part_len (hd_len _ _ _ _) hsz
  have hm9 : m ≤ 125 := by have := k.many; omega
  have hmP : (putS x.s i o).length = m := by rw [putS_len _ _ (by omega)]; omega
  obtain ⟨X1, hX1⟩ : ∃ X1, X1 = w.alloc (.cells #[.bool b1, .slice A1 n1 k1] 70) := ⟨_, rfl⟩
  obtain ⟨X2, hX2⟩ : ∃ X2, X2 = X1.alloc (.cells (cellsB (nought 512)).toArray 26) := ⟨_, rfl⟩
  obtain ⟨CS, hCS, hmk⟩ := make_cells (m) (by omega)
  obtain ⟨X3, hX3⟩ : ∃ X3, X3 = X2.alloc (.cells CS 70) := ⟨_, rfl⟩
  have g1 : Fr (fun _ => False) w X1 := by rw [hX1]; exact (Fr.refl _ _).alloc _
  have g2 : Fr (fun _ => False) X1 X2 := by rw [hX2]; exact (Fr.refl _ _).alloc _
  have g3 : Fr (fun _ => False) X2 X3 := by rw [hX3]; exact (Fr.refl _ _).alloc _
  have z1 : X1.heap.size = w.heap.size + 1 := by rw [hX1]; show (w.heap.push _).size = _; simp
  have z2 : X2.heap.size = w.heap.size + 2 := by rw [hX2]; show (X1.heap.push _).size = _; simp [z1]
  have b1 : Blk X3 w.heap.size 70 #[.bool b1, .slice A1 n1 k1] := Blk.keep (w := X1) (by rw [hX1]; exact Blk.new _ _ _) (g2.trans g3 (fun _ _ q => q)) (fun q => q)
  have b2 : Blk X3 (w.heap.size + 1) 26 (cellsB (nought 512)).toArray := Blk.keep (w := X2) (by rw [hX2, ← z1]; exact Blk.new _ _ _) g3 (fun q => q)
  have b3 : Blk X3 (w.heap.size + 2) 70 CS := by rw [hX3, ← z2]; exact Blk.new _ _ _
  have f3 := (g1.trans g2 (fun _ _ q => q)).trans g3 (fun _ _ q => q)
  have CM1 := manyOf_any (h.new (g1.trans g2 (fun _ _ q => q))) k
  have CM2 := manyOf_any (h.new f3) k
  rw [← hm] at CM1 CM2
  have HK := Lib.hid (And.intro h (And.intro k (And.intro hm (And.intro hmP (And.intro hu (And.intro hsz hL))))))
  have HB := Lib.hid (And.intro b1 (And.intro b2 (And.intro b3 (And.intro f3 hCS))))
  have HX := Lib.hid (And.intro hX1 (And.intro hX2 (And.intro hX3 (And.intro z1 z2))))
  have HLL := Lib.hid hll
  have hmk' : (Instr.makeSlice 93 (.int .i64 (m : Int)) (.int .i64 (m : Int))).run Try.prog X2 = .ok (.slice (some ⟨w.heap.size + 2, 0, none⟩) (m) (m)) X3 := by
    have := hmk X2
    rw [z2, ← hX3] at this
    have e : ((m : Int) : Int) = (((m) : Nat) : Int) := by omega
    rw [e]
    exact this
  clear h k hm hmP hu hsz hL hX3 g1 g2 g3 z1 z2 b1 b2 b3 f3 hCS hmk hll
  subst hX1
  subst hX2
  go_enter Try.func38, Try.ntmps38
  go_wp2_with (refine wpList_zero rfl 26 rfl zeroPage ?_)
  refine CM1.mono ?_
  rintro e w' ⟨rfl, rfl⟩
  clear CM1
  go_wp2_with fail
  refine CM2.mono ?_
  rintro e w' ⟨rfl, rfl⟩
  clear CM2 hmk'
  go_wp2_with fail
  go_loopw [17] (fun v wr => ∃ j : Nat, v = .int .i64 j ∧ j ≤ m ∧ Hid (∃ cs, Blk wr (w.heap.size + 2) 70 cs ∧ cs.size = (m) * 2 ∧ ∀ q o', q < j → x.s[q]? = some o' → ∃ v0 v1, cs[q * 2]? = some v0 ∧ cs[q * 2 + 1]? = some v1 ∧ RecV w o' v0 v1) ∧ Hid (Fr (fun q => q = w.heap.size + 2) X3 wr)) (fun v _ => m - (intOf v).toNat)
  case atStart => exact ⟨0, rfl, Nat.zero_le _, Lib.hid ⟨CS, HB.out.2.2.1, HB.out.2.2.2.2, fun q o' hq => absurd hq (by omega)⟩, Lib.hid (Fr.refl _ _)⟩
  case round =>
    obtain ⟨j, rfl, hj, HC, HF⟩ := hrel
    have HFw : Hid (Fr (fun _ => False) w wr) := Lib.hid (HB.out.2.2.2.1.trans HF.out (fun q hq e => by omega))
    by_cases hlt : j < m
    · obtain ⟨o', ho'⟩ : ∃ o', x.s[j]? = some o' := ⟨_, List.getElem?_eq_getElem (by have := HK.out.2.2.1; omega)⟩
      have CC := cellOf_any (HK.out.1.new HFw.out) HK.out.2.1 (i := j) (by have := HK.out.2.2.1; omega)
      obtain ⟨b0, A0, n0, k0, hv, hrv⟩ := cellV_rec HK.out.1 HK.out.2.1 ho'
      rw [hv] at CC
      have HV := Lib.hid (And.intro ho' hrv)
      have hi0 : (0 : Int) ≤ (j : Int) := by omega
      have hi1 : (j : Int) < (((m) : Nat) : Int) := by omega
      have hi2 : (j : Int) < (m : Int) := by omega
      clear ho' hv hrv
      go_wp2_with fail
      refine CC.mono ?_
      rintro e w1 ⟨rfl, f1⟩
      obtain ⟨cs, hbc, hcs, hall⟩ := HC.out
      have hbc1 := hbc.keep f1 (fun q => q)
      have c0 : ∃ v, w1.cell? ⟨w.heap.size + 2, j * 2, none⟩ = some v := ⟨_, (hbc1.cell (j * 2)).trans (Array.getElem?_eq_getElem (by omega))⟩
      have c1 : ∃ v, w1.cell? ⟨w.heap.size + 2, j * 2 + 1, none⟩ = some v := ⟨_, (hbc1.cell (j * 2 + 1)).trans (Array.getElem?_eq_getElem (by omega))⟩
      have hbc2 := hbc1.set_ (j * 2) (.bool b0)
      have hbc3 := hbc2.set_ (j * 2 + 1) (.slice A0 n0 k0)
      have c2 : ∃ v, (w1.setCell ⟨w.heap.size + 2, j * 2, none⟩ (.bool b0)).cell? ⟨w.heap.size + 2, j * 2 + 1, none⟩ = some v := ⟨_, (hbc2.cell (j * 2 + 1)).trans (Array.getElem?_eq_getElem (by simp; omega))⟩
      obtain ⟨x0, c0⟩ := c0
      obtain ⟨x1, c1⟩ := c1
      obtain ⟨x2, c2⟩ := c2
      have r0 := hbc1.frozen (j * 2)
      have r1 := hbc1.frozen (j * 2 + 1)
      have r2 := hbc2.frozen (j * 2 + 1)
      have HC2 : Hid (∃ cs, Blk ((w1.setCell ⟨w.heap.size + 2, j * 2, none⟩ (.bool b0)).setCell ⟨w.heap.size + 2, j * 2 + 1, none⟩ (.slice A0 n0 k0)) (w.heap.size + 2) 70 cs ∧ cs.size = (m) * 2 ∧ ∀ q o', q < j + 1 → x.s[q]? = some o' → ∃ v0 v1, cs[q * 2]? = some v0 ∧ cs[q * 2 + 1]? = some v1 ∧ RecV w o' v0 v1) := Lib.hid ⟨_, hbc3, by simp [hcs], fun q o2 hq ho2 => by
        by_cases e : q = j
        · subst e
          refine ⟨.bool b0, .slice A0 n0 k0, ?_, ?_, ?_⟩
          · rw [Array.getElem?_setIfInBounds, if_neg (by omega), Array.getElem?_setIfInBounds, if_pos rfl, if_pos (by omega)]
          · rw [Array.getElem?_setIfInBounds, if_pos rfl, if_pos (by simp; omega)]
          · rw [HV.out.1] at ho2
            injection ho2 with ho2
            rw [← ho2]
            exact HV.out.2
        · obtain ⟨y0, y1, a1, a2, a3⟩ := hall q o2 (by omega) ho2
          refine ⟨y0, y1, ?_, ?_, a3⟩
          · rw [Array.getElem?_setIfInBounds, if_neg (by omega), Array.getElem?_setIfInBounds, if_neg (by omega)]; exact a1
          · rw [Array.getElem?_setIfInBounds, if_neg (by omega), Array.getElem?_setIfInBounds, if_neg (by omega)]; exact a2⟩
      have HF2 : Hid (Fr (fun q => q = w.heap.size + 2) X3 ((w1.setCell ⟨w.heap.size + 2, j * 2, none⟩ (.bool b0)).setCell ⟨w.heap.size + 2, j * 2 + 1, none⟩ (.slice A0 n0 k0))) := Lib.hid (((HF.out.trans f1 (fun _ _ q => q.elim)).setCell (p := ⟨w.heap.size + 2, j * 2, none⟩) (.inl rfl) _).setCell (p := ⟨w.heap.size + 2, j * 2 + 1, none⟩) (.inl rfl) _)
      clear CC hbc hcs hall hbc1 hbc2 hbc3 f1 HC HF HFw
      go_wp2_with fail
      exact ⟨⟨j + 1, by go_num, by omega, HC2, HF2⟩, by simp [intOf]; omega⟩
    · obtain rfl : m = j := by omega
      have hbx := HB.out.1.keep HF.out (by omega)
      have hbp := HB.out.2.1.keep HF.out (by omega)
      obtain ⟨cs, hbc, hcs, hall⟩ := HC.out
      have d0 := hbx.cell 0
      have d1 := hbx.cell 1
      simp at d0 d1
      have hcn : (m) * 2 = cs.size := hcs.symm
      have c0 : ∃ v, wr.cell? ⟨w.heap.size + 2, i * 2, none⟩ = some v := ⟨_, (hbc.cell (i * 2)).trans (Array.getElem?_eq_getElem (by omega))⟩
      have hbc2 := hbc.set_ (i * 2) (.bool b1)
      have hbc3 := hbc2.set_ (i * 2 + 1) (.slice A1 n1 k1)
      have c2 : ∃ v, (wr.setCell ⟨w.heap.size + 2, i * 2, none⟩ (.bool b1)).cell? ⟨w.heap.size + 2, i * 2 + 1, none⟩ = some v := ⟨_, (hbc2.cell (i * 2 + 1)).trans (Array.getElem?_eq_getElem (by simp; omega))⟩
      have c1 : ∃ v, wr.cell? ⟨w.heap.size + 2, i * 2 + 1, none⟩ = some v := ⟨_, (hbc.cell (i * 2 + 1)).trans (Array.getElem?_eq_getElem (by omega))⟩
      obtain ⟨x0, c0⟩ := c0
      obtain ⟨x1, c1⟩ := c1
      obtain ⟨x2, c2⟩ := c2
      have r0 := hbc.frozen (i * 2)
      have r1 := hbc.frozen (i * 2 + 1)
      have r2 := hbc2.frozen (i * 2 + 1)
      obtain ⟨w5, hw5⟩ : ∃ w5, w5 = (wr.setCell ⟨w.heap.size + 2, i * 2, none⟩ (.bool b1)).setCell ⟨w.heap.size + 2, i * 2 + 1, none⟩ (.slice A1 n1 k1) := ⟨_, rfl⟩
      have f5 : Fr (fun q => q = w.heap.size + 2) X3 w5 := by rw [hw5]; exact (HF.out.setCell (p := ⟨w.heap.size + 2, i * 2, none⟩) (.inl rfl) _).setCell (p := ⟨w.heap.size + 2, i * 2 + 1, none⟩) (.inl rfl) _
      have f5w : Fr (fun _ => False) w w5 := HB.out.2.2.2.1.trans f5 (fun q hq e => by omega)
      have hRA : RecsAt w5 (some ⟨w.heap.size + 2, 0, none⟩) (putS x.s i o) := fun q o2 hq => by
        rw [← hw5] at hbc3
        rw [putS_get _ _ (by have := HK.out.2.2.1; omega)] at hq
        by_cases e : q = i
        · subst e
          rw [if_pos rfl] at hq
          injection hq with hq
          subst hq
          refine ⟨_, .bool b1, .slice A1 n1 k1, rfl, ?_, ?_, HK.out.2.2.2.2.1.new f5w⟩
          · rw [hbc3.cell, Array.getElem?_setIfInBounds, if_neg (by omega), Array.getElem?_setIfInBounds, if_pos rfl, if_pos (by omega)]
          · rw [hbc3.cell, Array.getElem?_setIfInBounds, if_pos rfl, if_pos (by simp; omega)]
        · rw [if_neg e] at hq
          obtain ⟨y0, y1, a1, a2, a3⟩ := hall q o2 (by have := (List.getElem?_eq_some_iff.1 hq).1; have := HK.out.2.2.1; omega) hq
          refine ⟨_, y0, y1, rfl, ?_, ?_, a3.new f5w⟩
          · rw [hbc3.cell, Array.getElem?_setIfInBounds, if_neg (by omega), Array.getElem?_setIfInBounds, if_neg (by omega)]; exact a1
          · rw [hbc3.cell, Array.getElem?_setIfInBounds, if_neg (by omega), Array.getElem?_setIfInBounds, if_neg (by omega)]; exact a2
      have CK := kindOf_any (HK.out.1.new f5w) HK.out.2.1
      have CN := nextOf_any (HK.out.1.new f5w) HK.out.2.1
      have CP := packed_any (A := some ⟨w.heap.size + 2, 0, none⟩) (c := m) (n := m) (kind := x.kind) (next := x.next) HK.out.2.2.2.1.symm (Nat.le_refl _) (by omega) hRA HK.out.2.1.k HK.out.2.1.n HK.out.2.2.2.2.2.1
      have HF5 := Lib.hid f5w
      have HBP := Lib.hid (hbp.keep ((Fr.refl (fun q => q = w.heap.size + 2) wr).setCell (p := ⟨w.heap.size + 2, i * 2, none⟩) (.inl rfl) (.bool b1) |>.setCell (p := ⟨w.heap.size + 2, i * 2 + 1, none⟩) (.inl rfl) (.slice A1 n1 k1)) (by omega))
      rw [← hw5] at HBP
      rw [← HK.out.2.2.2.2.2.2] at CP
      have hi0 : (0 : Int) ≤ (i : Int) := by omega
      have hi1 : (i : Int) < (((m) : Nat) : Int) := by omega
      have hi2 : (i : Int) < (m : Int) := by omega
      have HW5 := Lib.hid hw5
      clear hbx hbp hbc hcs hall hcn hbc2 hbc3 f5 f5w hRA hw5 HC HF HFw hlt hj
      go_wp2_with fail
      rw [← HW5.out]
      refine CK.mono ?_
      rintro e w' ⟨rfl, rfl⟩
      clear CK
      go_wp2_with fail
      refine CN.mono ?_
      rintro e w' ⟨rfl, rfl⟩
      clear CN
      go_wp2_with fail
      refine CP.mono ?_
      rintro e w6 ⟨rfl, f6⟩
      have hbR := HBP.out.keep f6 (fun q => q)
      have hbo := hbR.over (o := 0) (m := L) (by rw [nought_len, HLL.out]; omega)
      rw [patch_all (by rw [nought_len, HLL.out])] at hbo
      have HE := Lib.hid (And.intro hbo (Fr.setCells (F := fun _ => False) (b := w.heap.size + 1) (vs := cellsB L) (o := 0) (.inr (by omega)) (HF5.out.trans f6 (fun _ _ q => q))))
      have HG := Lib.hid hbR
      clear CP f6 hbR hbo HBP HF5
      go_wp2_with (refine wpList_store_mid rfl 26 _ _ rfl (w.heap.size + 1) 0 (cellsB L).toArray rfl rfl (HG.out.there (by simp [cellsB_len, nought_len, HLL.out])) (by rw [infoPage]; simp [cellsB_len, HLL.out]) (all_oneCell_toArray (cellsB_one _)) ?_)
      refine bodyPost_ret (results_cell_row rfl _ _ (w.heap.size + 1) 26 (cellsB L).toArray (0, 0) _ rfl HE.out.1 Try.underlying26 rfl (by rw [infoPage]; simp [cellsB_len, HLL.out])) rfl ⟨rfl, HE.out.2⟩
set_option maxRecDepth 100000 in
set_option maxHeartbeats 4000000 in
theorem changed_new (h : PW w P x) (k : x.Ok) {i m : Nat} (hm : m = x.s.length) (him1 : m ≤ i) (him2 : i ≤ m) {o : Rec} {b1 : Bool} {A1 : Option Addr} {n1 k1 : Nat} (hu : RecV w o (.bool b1) (.slice A1 n1 k1)) (hsz : 12 + 4 * (trim (putS x.s i o)).length + tot (trim (putS x.s i o)) ≤ 512) :
    Calls Try.prog 38 #[.pointer (some ⟨P, 0, none⟩), .int .i64 i, .agg #[.bool b1, .slice A1 n1 k1]] w fun e w' => e = .returned (av (PD.mk x.kind x.next (trim (putS x.s i o))).bytes) ∧ Fr (fun _ => False) w w' := by
  obtain ⟨L, hL⟩ : ∃ L, L = (PD.mk x.kind x.next (trim (putS x.s i o))).bytes := ⟨_, rfl⟩
  rw [← hL]
  have hll : L.length = 512 := by rw [hL]; unfold PD.bytes; exact part_len (hd_len _ _ _ _) hsz
  have hm9 : m ≤ 125 := by have := k.many; omega
  have hmP : (putS x.s i o).length = i + 1 := by rw [putS_len _ _ (by omega)]; omega
  obtain ⟨X1, hX1⟩ : ∃ X1, X1 = w.alloc (.cells #[.bool b1, .slice A1 n1 k1] 70) := ⟨_, rfl⟩
  obtain ⟨X2, hX2⟩ : ∃ X2, X2 = X1.alloc (.cells (cellsB (nought 512)).toArray 26) := ⟨_, rfl⟩
  obtain ⟨CS, hCS, hmk⟩ := make_cells (i + 1) (by omega)
  obtain ⟨X3, hX3⟩ : ∃ X3, X3 = X2.alloc (.cells CS 70) := ⟨_, rfl⟩
  have g1 : Fr (fun _ => False) w X1 := by rw [hX1]; exact (Fr.refl _ _).alloc _
  have g2 : Fr (fun _ => False) X1 X2 := by rw [hX2]; exact (Fr.refl _ _).alloc _
  have g3 : Fr (fun _ => False) X2 X3 := by rw [hX3]; exact (Fr.refl _ _).alloc _
  have z1 : X1.heap.size = w.heap.size + 1 := by rw [hX1]; show (w.heap.push _).size = _; simp
  have z2 : X2.heap.size = w.heap.size + 2 := by rw [hX2]; show (X1.heap.push _).size = _; simp [z1]
  have b1 : Blk X3 w.heap.size 70 #[.bool b1, .slice A1 n1 k1] := Blk.keep (w := X1) (by rw [hX1]; exact Blk.new _ _ _) (g2.trans g3 (fun _ _ q => q)) (fun q => q)
  have b2 : Blk X3 (w.heap.size + 1) 26 (cellsB (nought 512)).toArray := Blk.keep (w := X2) (by rw [hX2, ← z1]; exact Blk.new _ _ _) g3 (fun q => q)
  have b3 : Blk X3 (w.heap.size + 2) 70 CS := by rw [hX3, ← z2]; exact Blk.new _ _ _
  have f3 := (g1.trans g2 (fun _ _ q => q)).trans g3 (fun _ _ q => q)
  have CM1 := manyOf_any (h.new (g1.trans g2 (fun _ _ q => q))) k
  have CM2 := manyOf_any (h.new f3) k
  rw [← hm] at CM1 CM2
  have HK := Lib.hid (And.intro h (And.intro k (And.intro hm (And.intro hmP (And.intro hu (And.intro hsz hL))))))
  have HB := Lib.hid (And.intro b1 (And.intro b2 (And.intro b3 (And.intro f3 hCS))))
  have HX := Lib.hid (And.intro hX1 (And.intro hX2 (And.intro hX3 (And.intro z1 z2))))
  have HLL := Lib.hid hll
  have hmk' : (Instr.makeSlice 93 (.int .i64 ((i : Int) + 1)) (.int .i64 ((i : Int) + 1))).run Try.prog X2 = .ok (.slice (some ⟨w.heap.size + 2, 0, none⟩) (i + 1) (i + 1)) X3 := by
    have := hmk X2
    rw [z2, ← hX3] at this
    have e : (((i : Int) + 1) : Int) = (((i + 1) : Nat) : Int) := by omega
    rw [e]
    exact this
  clear h k hm hmP hu hsz hL hX3 g1 g2 g3 z1 z2 b1 b2 b3 f3 hCS hmk hll
  subst hX1
  subst hX2
  go_enter Try.func38, Try.ntmps38
  go_wp2_with (refine wpList_zero rfl 26 rfl zeroPage ?_)
  refine CM1.mono ?_
  rintro e w' ⟨rfl, rfl⟩
  clear CM1
  go_wp2_with fail
  refine CM2.mono ?_
  rintro e w' ⟨rfl, rfl⟩
  clear CM2 hmk'
  go_wp2_with fail
  go_loopw [17] (fun v wr => ∃ j : Nat, v = .int .i64 j ∧ j ≤ m ∧ Hid (∃ cs, Blk wr (w.heap.size + 2) 70 cs ∧ cs.size = (i + 1) * 2 ∧ ∀ q o', q < j → x.s[q]? = some o' → ∃ v0 v1, cs[q * 2]? = some v0 ∧ cs[q * 2 + 1]? = some v1 ∧ RecV w o' v0 v1) ∧ Hid (Fr (fun q => q = w.heap.size + 2) X3 wr)) (fun v _ => m - (intOf v).toNat)
  case atStart => exact ⟨0, rfl, Nat.zero_le _, Lib.hid ⟨CS, HB.out.2.2.1, HB.out.2.2.2.2, fun q o' hq => absurd hq (by omega)⟩, Lib.hid (Fr.refl _ _)⟩
  case round =>
    obtain ⟨j, rfl, hj, HC, HF⟩ := hrel
    have HFw : Hid (Fr (fun _ => False) w wr) := Lib.hid (HB.out.2.2.2.1.trans HF.out (fun q hq e => by omega))
    by_cases hlt : j < m
    · obtain ⟨o', ho'⟩ : ∃ o', x.s[j]? = some o' := ⟨_, List.getElem?_eq_getElem (by have := HK.out.2.2.1; omega)⟩
      have CC := cellOf_any (HK.out.1.new HFw.out) HK.out.2.1 (i := j) (by have := HK.out.2.2.1; omega)
      obtain ⟨b0, A0, n0, k0, hv, hrv⟩ := cellV_rec HK.out.1 HK.out.2.1 ho'
      rw [hv] at CC
      have HV := Lib.hid (And.intro ho' hrv)
      have hi0 : (0 : Int) ≤ (j : Int) := by omega
      have hi1 : (j : Int) < (((i + 1) : Nat) : Int) := by omega
      have hi2 : (j : Int) < ((i : Int) + 1) := by omega
      clear ho' hv hrv
      go_wp2_with fail
      refine CC.mono ?_
      rintro e w1 ⟨rfl, f1⟩
      obtain ⟨cs, hbc, hcs, hall⟩ := HC.out
      have hbc1 := hbc.keep f1 (fun q => q)
      have c0 : ∃ v, w1.cell? ⟨w.heap.size + 2, j * 2, none⟩ = some v := ⟨_, (hbc1.cell (j * 2)).trans (Array.getElem?_eq_getElem (by omega))⟩
      have c1 : ∃ v, w1.cell? ⟨w.heap.size + 2, j * 2 + 1, none⟩ = some v := ⟨_, (hbc1.cell (j * 2 + 1)).trans (Array.getElem?_eq_getElem (by omega))⟩
      have hbc2 := hbc1.set_ (j * 2) (.bool b0)
      have hbc3 := hbc2.set_ (j * 2 + 1) (.slice A0 n0 k0)
      have c2 : ∃ v, (w1.setCell ⟨w.heap.size + 2, j * 2, none⟩ (.bool b0)).cell? ⟨w.heap.size + 2, j * 2 + 1, none⟩ = some v := ⟨_, (hbc2.cell (j * 2 + 1)).trans (Array.getElem?_eq_getElem (by simp; omega))⟩
      obtain ⟨x0, c0⟩ := c0
      obtain ⟨x1, c1⟩ := c1
      obtain ⟨x2, c2⟩ := c2
      have r0 := hbc1.frozen (j * 2)
      have r1 := hbc1.frozen (j * 2 + 1)
      have r2 := hbc2.frozen (j * 2 + 1)
      have HC2 : Hid (∃ cs, Blk ((w1.setCell ⟨w.heap.size + 2, j * 2, none⟩ (.bool b0)).setCell ⟨w.heap.size + 2, j * 2 + 1, none⟩ (.slice A0 n0 k0)) (w.heap.size + 2) 70 cs ∧ cs.size = (i + 1) * 2 ∧ ∀ q o', q < j + 1 → x.s[q]? = some o' → ∃ v0 v1, cs[q * 2]? = some v0 ∧ cs[q * 2 + 1]? = some v1 ∧ RecV w o' v0 v1) := Lib.hid ⟨_, hbc3, by simp [hcs], fun q o2 hq ho2 => by
        by_cases e : q = j
        · subst e
          refine ⟨.bool b0, .slice A0 n0 k0, ?_, ?_, ?_⟩
          · rw [Array.getElem?_setIfInBounds, if_neg (by omega), Array.getElem?_setIfInBounds, if_pos rfl, if_pos (by omega)]
          · rw [Array.getElem?_setIfInBounds, if_pos rfl, if_pos (by simp; omega)]
          · rw [HV.out.1] at ho2
            injection ho2 with ho2
            rw [← ho2]
            exact HV.out.2
        · obtain ⟨y0, y1, a1, a2, a3⟩ := hall q o2 (by omega) ho2
          refine ⟨y0, y1, ?_, ?_, a3⟩
          · rw [Array.getElem?_setIfInBounds, if_neg (by omega), Array.getElem?_setIfInBounds, if_neg (by omega)]; exact a1
          · rw [Array.getElem?_setIfInBounds, if_neg (by omega), Array.getElem?_setIfInBounds, if_neg (by omega)]; exact a2⟩
      have HF2 : Hid (Fr (fun q => q = w.heap.size + 2) X3 ((w1.setCell ⟨w.heap.size + 2, j * 2, none⟩ (.bool b0)).setCell ⟨w.heap.size + 2, j * 2 + 1, none⟩ (.slice A0 n0 k0))) := Lib.hid (((HF.out.trans f1 (fun _ _ q => q.elim)).setCell (p := ⟨w.heap.size + 2, j * 2, none⟩) (.inl rfl) _).setCell (p := ⟨w.heap.size + 2, j * 2 + 1, none⟩) (.inl rfl) _)
      clear CC hbc hcs hall hbc1 hbc2 hbc3 f1 HC HF HFw
      go_wp2_with fail
      exact ⟨⟨j + 1, by go_num, by omega, HC2, HF2⟩, by simp [intOf]; omega⟩
    · obtain rfl : m = j := by omega
      have hbx := HB.out.1.keep HF.out (by omega)
      have hbp := HB.out.2.1.keep HF.out (by omega)
      obtain ⟨cs, hbc, hcs, hall⟩ := HC.out
      have d0 := hbx.cell 0
      have d1 := hbx.cell 1
      simp at d0 d1
      have hcn : (i + 1) * 2 = cs.size := hcs.symm
      have c0 : ∃ v, wr.cell? ⟨w.heap.size + 2, i * 2, none⟩ = some v := ⟨_, (hbc.cell (i * 2)).trans (Array.getElem?_eq_getElem (by omega))⟩
      have hbc2 := hbc.set_ (i * 2) (.bool b1)
      have hbc3 := hbc2.set_ (i * 2 + 1) (.slice A1 n1 k1)
      have c2 : ∃ v, (wr.setCell ⟨w.heap.size + 2, i * 2, none⟩ (.bool b1)).cell? ⟨w.heap.size + 2, i * 2 + 1, none⟩ = some v := ⟨_, (hbc2.cell (i * 2 + 1)).trans (Array.getElem?_eq_getElem (by simp; omega))⟩
      have c1 : ∃ v, wr.cell? ⟨w.heap.size + 2, i * 2 + 1, none⟩ = some v := ⟨_, (hbc.cell (i * 2 + 1)).trans (Array.getElem?_eq_getElem (by omega))⟩
      obtain ⟨x0, c0⟩ := c0
      obtain ⟨x1, c1⟩ := c1
      obtain ⟨x2, c2⟩ := c2
      have r0 := hbc.frozen (i * 2)
      have r1 := hbc.frozen (i * 2 + 1)
      have r2 := hbc2.frozen (i * 2 + 1)
      obtain ⟨w5, hw5⟩ : ∃ w5, w5 = (wr.setCell ⟨w.heap.size + 2, i * 2, none⟩ (.bool b1)).setCell ⟨w.heap.size + 2, i * 2 + 1, none⟩ (.slice A1 n1 k1) := ⟨_, rfl⟩
      have f5 : Fr (fun q => q = w.heap.size + 2) X3 w5 := by rw [hw5]; exact (HF.out.setCell (p := ⟨w.heap.size + 2, i * 2, none⟩) (.inl rfl) _).setCell (p := ⟨w.heap.size + 2, i * 2 + 1, none⟩) (.inl rfl) _
      have f5w : Fr (fun _ => False) w w5 := HB.out.2.2.2.1.trans f5 (fun q hq e => by omega)
      have hRA : RecsAt w5 (some ⟨w.heap.size + 2, 0, none⟩) (putS x.s i o) := fun q o2 hq => by
        rw [← hw5] at hbc3
        rw [putS_get _ _ (by have := HK.out.2.2.1; omega)] at hq
        by_cases e : q = i
        · subst e
          rw [if_pos rfl] at hq
          injection hq with hq
          subst hq
          refine ⟨_, .bool b1, .slice A1 n1 k1, rfl, ?_, ?_, HK.out.2.2.2.2.1.new f5w⟩
          · rw [hbc3.cell, Array.getElem?_setIfInBounds, if_neg (by omega), Array.getElem?_setIfInBounds, if_pos rfl, if_pos (by omega)]
          · rw [hbc3.cell, Array.getElem?_setIfInBounds, if_pos rfl, if_pos (by simp; omega)]
        · rw [if_neg e] at hq
          obtain ⟨y0, y1, a1, a2, a3⟩ := hall q o2 (by have := (List.getElem?_eq_some_iff.1 hq).1; have := HK.out.2.2.1; omega) hq
          refine ⟨_, y0, y1, rfl, ?_, ?_, a3.new f5w⟩
          · rw [hbc3.cell, Array.getElem?_setIfInBounds, if_neg (by omega), Array.getElem?_setIfInBounds, if_neg (by omega)]; exact a1
          · rw [hbc3.cell, Array.getElem?_setIfInBounds, if_neg (by omega), Array.getElem?_setIfInBounds, if_neg (by omega)]; exact a2
      have CK := kindOf_any (HK.out.1.new f5w) HK.out.2.1
      have CN := nextOf_any (HK.out.1.new f5w) HK.out.2.1
      have CP := packed_any (A := some ⟨w.heap.size + 2, 0, none⟩) (c := i + 1) (n := i + 1) (kind := x.kind) (next := x.next) HK.out.2.2.2.1.symm (Nat.le_refl _) (by omega) hRA HK.out.2.1.k HK.out.2.1.n HK.out.2.2.2.2.2.1
      have HF5 := Lib.hid f5w
      have HBP := Lib.hid (hbp.keep ((Fr.refl (fun q => q = w.heap.size + 2) wr).setCell (p := ⟨w.heap.size + 2, i * 2, none⟩) (.inl rfl) (.bool b1) |>.setCell (p := ⟨w.heap.size + 2, i * 2 + 1, none⟩) (.inl rfl) (.slice A1 n1 k1)) (by omega))
      rw [← hw5] at HBP
      rw [← HK.out.2.2.2.2.2.2] at CP
      have hi0 : (0 : Int) ≤ (i : Int) := by omega
      have hi1 : (i : Int) < (((i + 1) : Nat) : Int) := by omega
      have hi2 : (i : Int) < ((i : Int) + 1) := by omega
      have HW5 := Lib.hid hw5
      clear hbx hbp hbc hcs hall hcn hbc2 hbc3 f5 f5w hRA hw5 HC HF HFw hlt hj
      go_wp2_with fail
      rw [← HW5.out]
      refine CK.mono ?_
      rintro e w' ⟨rfl, rfl⟩
      clear CK
      go_wp2_with fail
      refine CN.mono ?_
      rintro e w' ⟨rfl, rfl⟩
      clear CN
      go_wp2_with fail
      refine CP.mono ?_
      rintro e w6 ⟨rfl, f6⟩
      have hbR := HBP.out.keep f6 (fun q => q)
      have hbo := hbR.over (o := 0) (m := L) (by rw [nought_len, HLL.out]; omega)
      rw [patch_all (by rw [nought_len, HLL.out])] at hbo
      have HE := Lib.hid (And.intro hbo (Fr.setCells (F := fun _ => False) (b := w.heap.size + 1) (vs := cellsB L) (o := 0) (.inr (by omega)) (HF5.out.trans f6 (fun _ _ q => q))))
      have HG := Lib.hid hbR
      clear CP f6 hbR hbo HBP HF5
      go_wp2_with (refine wpList_store_mid rfl 26 _ _ rfl (w.heap.size + 1) 0 (cellsB L).toArray rfl rfl (HG.out.there (by simp [cellsB_len, nought_len, HLL.out])) (by rw [infoPage]; simp [cellsB_len, HLL.out]) (all_oneCell_toArray (cellsB_one _)) ?_)
      refine bodyPost_ret (results_cell_row rfl _ _ (w.heap.size + 1) 26 (cellsB L).toArray (0, 0) _ rfl HE.out.1 Try.underlying26 rfl (by rw [infoPage]; simp [cellsB_len, HLL.out])) rfl ⟨rfl, HE.out.2⟩
set_option maxRecDepth 100000 in
theorem changed_any (h : PW w P x) (k : x.Ok) {i : Nat} (hi : i ≤ x.s.length) {o : Rec} {b1 : Bool} {A1 : Option Addr} {n1 k1 : Nat} (hu : RecV w o (.bool b1) (.slice A1 n1 k1)) (hsz : 12 + 4 * (trim (putS x.s i o)).length + tot (trim (putS x.s i o)) ≤ 512) :
    Calls Try.prog 38 #[.pointer (some ⟨P, 0, none⟩), .int .i64 i, .agg #[.bool b1, .slice A1 n1 k1]] w fun e w' => e = .returned (av (PD.mk x.kind x.next (trim (putS x.s i o))).bytes) ∧ Fr (fun _ => False) w w' := by
  by_cases h1 : i < x.s.length
  · exact changed_in h k rfl h1 hu hsz
  · exact changed_new h k rfl (by omega) hi hu hsz
end
end Go.Proofs.Ytijdbngjnhhheaa
