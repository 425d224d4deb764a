/- W10: laid together out of Rto Rth Rjw. -/
import Derived.Deep.DeepCutAuto
import Derived.Test.YtjdbgojnpnlblaaGreatW9
namespace Go.Proofs.YtjdbgojnpnlblaaGreat
open Go.RowKit

set_option maxRecDepth 100000 in
theorem tfold_set_at : ∀ (l : List Value) (o k : Nat) (acc : Array Value), o + k + l.length ≤ acc.size → ((l.zipIdx k).foldl (fun cs (x : Value × Nat) => cs.setIfInBounds (o + x.2) x.1) acc) = (acc.toList.take (o + k) ++ (l ++ acc.toList.drop (o + k + l.length))).toArray
  | [], o, k, acc, _ => by simp
  | x :: l, o, k, acc, h => by
    simp only [List.length_cons] at h
    rw [List.zipIdx_cons, List.foldl_cons, tfold_set_at l o (k + 1) _ (by simp; omega)]
    simp only [Array.toList_setIfInBounds]
    have h1 : o + k < acc.toList.length := by simp; omega
    have e0 : o + (k + 1) = o + k + 1 := by omega
    rw [e0]
    have e1 : (acc.toList.set (o + k) x).take (o + k + 1) = acc.toList.take (o + k) ++ [x] := by
      rw [List.take_set, List.take_succ_eq_append_getElem h1]
      have h4 : (acc.toList.take (o + k)).length = o + k := by rw [List.length_take]; omega
      rw [List.set_append_right _ _ (by omega), h4, Nat.sub_self]
      rfl
    have e2 : (acc.toList.set (o + k) x).drop (o + k + 1 + l.length) = acc.toList.drop (o + k + (l.length + 1)) := by
      rw [List.drop_set_of_lt (by omega)]
      congr 1
      omega
    rw [e1, e2]
    simp
set_option maxRecDepth 100000 in
theorem tfill_two {cs ds base : List Value} (K : Nat) (hc : cs.length = K) (hd : ds.length = K) (hb : base.length = 2 * K) : Instr.fill (fun i => some (i * K, K)) base.toArray [(0, .agg cs.toArray), (1, .agg ds.toArray)] = some (cs ++ ds).toArray := by
  have h1 := fold_set cs 0 base.toArray (by simp; omega)
  have h2 := tfold_set_at ds K 0 (cs ++ base.drop K).toArray (by simp; omega)
  simp only [Instr.fill, Value.cells, Nat.zero_mul, Nat.one_mul]
  rw [if_neg (by simp; omega)]
  rw [← Array.foldl_toList, Array.toList_zipIdx, List.toList_toArray, h1]
  simp only [List.toList_toArray, List.take_zero, List.nil_append, Nat.zero_add, hc]
  rw [if_neg (by simp; omega)]
  rw [← Array.foldl_toList, Array.toList_zipIdx, List.toList_toArray, h2]
  simp only [List.toList_toArray, Nat.add_zero]
  have e1 : (cs ++ base.drop K).take K = cs := List.take_left' hc
  have e2 : (cs ++ base.drop K).drop (K + ds.length) = [] := List.drop_eq_nil_of_le (by simp; omega)
  rw [e1, e2, List.append_nil]
set_option maxRecDepth 100000 in
theorem slice_of_two {a b : List UInt8} (ha : a.length = 128) (hb : b.length = 128) (w : World) : (Instr.buildSlice 33 2 #[(0, av a), (1, av b)]).run Tryz.prog w = .ok (.slice (some ⟨w.heap.size, 0, none⟩) 2 2) (w.alloc (.cells (cellsB (a ++ b)).toArray 45)) := by
  obtain ⟨i0, hi, hz0, hz1, hz2⟩ := info_parts infoSec
  refine run_buildSlice w 33 45 2 _ _ i0 _ Tryz.underlying33 hi hz0 (by rw [hz1]; omega) (by rw [hz1]; omega) ?_
  rw [hz1]
  have hq : ((Array.range (2 * 128)).map ((av (nought 128)).cells[· % (av (nought 128)).cells.size]!)) = (cellsB (nought 256)).toArray := made_bytes (av (nought 128)).cells 128 (2 * 128) rfl (by omega)
  rw [hq, cellsB_app]
  exact tfill_two 128 (by rw [cellsB_len, ha]) (by rw [cellsB_len, hb]) (by rw [cellsB_len, nought_len])
section
variable {P : Program} {ops : Array Oper} {Q : Exit → Act → World → Prop} {md : Region.Mode} {S : World → Prop}
end
section
variable {ops : Array Oper} {o : Oper} {a : Act} {Q : Exit → Act → World → Prop}
set_option maxRecDepth 100000 in
theorem wpList_build_two {rest : List Oper} {w : World} (hg : o.guard = none) (x y : Operand) (hop : o.op = .buildSlice 33 2 #[(0, x), (1, y)]) {l m : List UInt8} (hl : l.length = 128) (hm : m.length = 128) (hx : a.eval x = av l) (hy : a.eval y = av m)
    (hK : wpList Tryz.prog ops Q rest (a.put o.dst (.slice (some ⟨w.heap.size, 0, none⟩) 2 2)) (w.alloc (.cells (cellsB (l ++ m)).toArray 45))) : wpList Tryz.prog ops Q (o :: rest) a w := by
  refine wpList_plain hg fun K hK' => ?_
  have hr := slice_of_two hl hm w
  unfold Oper.wp execOp
  simp only [hop, hx, hy]
  simp [hr, hx, hy, Result.andThen]
  exact hK' _ _ hK
end
set_option maxRecDepth 100000 in
theorem els_old {w : World} {A : Option Addr} {k : Nat} {l : List UInt8} (hr : Rd w A k l) (hk : 0 < k) : ∀ ad, A = some ad → 0 ≤ ad.block ∧ (some w.heap.size : Option Nat) ≠ some ad.block := fun ad e => by
  obtain ⟨ad', e', hlt⟩ := hr.lt hk
  rw [e] at e'
  injection e' with e'
  subst e'
  refine ⟨Nat.zero_le _, fun q => ?_⟩
  injection q with q
  omega
set_option maxRecDepth 100000 in
theorem secs_two {a b : List UInt8} (ha : a.length = 128) (hb : b.length = 128) : secs (a ++ b) 2 = [a, b] := by
  unfold secs
  have e1 : (a ++ b).take 128 = a := List.take_left' ha
  have e2 : (a ++ b).drop 128 = b := List.drop_left' ha
  have e3 : b.take 128 = b := List.take_of_length_le (by omega)
  simp [List.range_succ, e1, e2, e3]
set_option maxRecDepth 100000 in
theorem parts_two {a b : List UInt8} (ha : a.length = 128) (hb : b.length = 128) : partsL [a, b] = [a.take 64, a.drop 64, b.take 64, b.drop 64] := by
  have h0 := hv_at (ss := [a, b]) (k := 0) rfl ha
  have h1 := hv_at (ss := [a, b]) (k := 1) rfl hb
  simp only [Nat.mul_zero, Nat.zero_add, Nat.mul_one] at h0 h1
  have e : (2 + 1) = 3 := rfl
  rw [e] at h1
  unfold partsL
  simp only [List.length_cons, List.length_nil, Nat.zero_add, Nat.reduceAdd, Nat.reduceMul]
  simp [List.range_succ, h0.1, h0.2, h1.1, h1.2]

set_option maxRecDepth 100000 in
set_option maxHeartbeats 4000000 in
theorem rtorn_any (w : World) (a b : List UInt8) (ha : a.length = 128) (hb : b.length = 128) : Calls Tryz.prog 45 #[av a, av b] w fun e w' => e = .returned (av (tornOf a b)) ∧ Fr (fun _ => False) w w' := by
  go_enter Tryz.func45, Tryz.ntmps45
  have HAB := Lib.hid (And.intro ha hb)
  clear ha hb
  obtain ⟨W, hW, k0, k1, k2, hsz, hfr⟩ := alloc3 w (cellsB a).toArray (cellsB b).toArray (cellsB (nought 128)).toArray 45 45 45
  have HW := Lib.hid hW
  have HK := Lib.hid (And.intro k0 (And.intro k1 (And.intro k2 (And.intro hsz hfr))))
  have r0 : W.rangeAt w.heap.size 0 (cellsB a) := by
    have := k0.range 0 128
    rw [List.drop_zero, List.take_of_length_le (Nat.le_of_eq HAB.out.1)] at this
    exact this
  have r1 : W.rangeAt (w.heap.size + 1) 0 (cellsB b) := by
    have := k1.range 0 128
    rw [List.drop_zero, List.take_of_length_le (Nat.le_of_eq HAB.out.2)] at this
    exact this
  have e1 : (w.alloc (.cells (cellsB a).toArray 45)).heap.size = w.heap.size + 1 := by simp
  rw [← e1] at r1
  rw [hW] at r0 r1
  have HR := Lib.hid (And.intro r0 r1)
  clear k0 k1 k2 hsz hfr r0 r1 hW
  go_wp2_with (first
    | (refine wpList_zero rfl 45 rfl zeroSector ?_)
    | (refine wpList_put rfl 45 _ rfl _ rfl ?_)
    | (refine wpList_load_mid rfl 45 (.tmp 2) rfl w.heap.size 0 rfl (cellsB a) _ HR.out.1 Tryz.underlying45 rfl (by rw [infoSector, cellsB_len, HAB.out.1]) ?_)
    | (refine wpList_load_mid rfl 45 (.tmp 3) rfl _ 0 rfl (cellsB b) _ HR.out.2 Tryz.underlying45 rfl (by rw [infoSector, cellsB_len, HAB.out.2]) ?_)
    | (refine wpList_build_two rfl (.tmp 6) (.tmp 7) rfl HAB.out.1 HAB.out.2 rfl rfl ?_))
  rw [← HW.out]
  have hbA := Blk.new W 45 (cellsB (a ++ b)).toArray
  have hsv : SecV (W.alloc (.cells (cellsB (a ++ b)).toArray 45)) (.slice (some ⟨W.heap.size, 0, none⟩) 2 2) [a, b] := by
    rw [← secs_two HAB.out.1 HAB.out.2]
    exact secV_own1 (base := 0) (own_of_blk hbA (Nat.zero_le _) (by rw [cellsB_len, List.length_append, HAB.out.1, HAB.out.2]) (by simp [maxLen])) (by rw [List.length_append, HAB.out.1, HAB.out.2])
  have hWs : W.heap.size = w.heap.size + 1 + 1 + 1 := HK.out.2.2.2.1
  have hps := rparts_any hsv (by simp)
  rw [hWs] at hps
  have HP := Lib.hid hps
  clear hps hWs
  have hfA : Fr (fun _ => False) W (W.alloc (.cells (cellsB (a ++ b)).toArray 45)) := (Fr.refl _ W).alloc _
  have hszA : (W.alloc (.cells (cellsB (a ++ b)).toArray 45)).heap.size = w.heap.size + 4 := by have := HK.out.2.2.2.1; simp; omega
  have HA := Lib.hid (And.intro hfA hszA)
  clear hbA hsv hfA hszA HR
  (with_reducible refine HP.out.mono ?_)
  rintro e w2 ⟨v5, rfl, hl5, hf5⟩
  rw [parts_two HAB.out.1 HAB.out.2, HA.out.2] at hl5
  obtain ⟨g, cap, rfl, hg1, hg2, hcap, hcm, hat⟩ := hl5.at_ (by simp)
  obtain ⟨A0, c0, hc0, hd0, hr0, hn0⟩ := hat 0 _ rfl
  obtain ⟨A3, c3, hc3, hd3, hr3, hn3⟩ := hat 3 _ rfl
  have l0 : (a.take 64).length = 64 := by rw [List.length_take, HAB.out.1]; rfl
  have l3 : (b.drop 64).length = 64 := by rw [List.length_drop, HAB.out.2]
  rw [l0] at hc0 hd0 hr0
  rw [l3] at hc3 hd3 hr3
  have HC : Hid (∀ w', Fr (fun j => j = w.heap.size + 2) w2 w' → w'.cell? ⟨g, 0, none⟩ = some (.slice A0 64 c0) ∧ w'.cell? ⟨g, 3, none⟩ = some (.slice A3 64 c3)) := Lib.hid fun w' f => ⟨(f.cell hg2 (by simp; omega)).trans hc0, (f.cell hg2 (by simp; omega)).trans hc3⟩
  have HD := Lib.hid (And.intro (And.intro hd0 (And.intro hr0 hn0)) (And.intro (And.intro hd3 (And.intro hr3 hn3)) (And.intro l0 l3)))
  have hf2 := HA.out.1.trans hf5 (fun _ _ q => q)
  have HF := Lib.hid (And.intro (HK.out.2.2.1.keep hf2 (fun q => q)) (And.intro (HK.out.2.2.2.2.trans hf2 (fun _ _ q => q)) hf2))
  clear hl5 hg1 hg2 hcap hcm hat hc0 hd0 hr0 hn0 hc3 hd3 hr3 hn3 l0 l3 hf2 hf5 HP HA
  have e4 : [a.take 64, a.drop 64, b.take 64, b.drop 64].length = 4 := rfl
  rw [e4]
  clear e4
  go_wp2_with fail
  refine wp_region_held_drew (S := fun w' => Fr (fun j => j = w.heap.size + 2) w2 w') (by kernel_rfl) ((Fr.refl _ _).drew) (fun hS0 => ?_)
  refine anyH_take 0 10 (.slice (some ⟨g, 0, none⟩) 4 cap) rfl rfl (by kernel_rfl) (by kernel_rfl) (by kernel_rfl) (fun _ _ _ h => h) (.inl ⟨by rfl, fun w'' hS => by go_simp⟩) hS0 ?_
  (simp only [List.setIfInBounds_toArray, List.set_cons_zero, List.set_cons_succ])
  refine anyH_take 1 11 (.pointer (some ⟨g, 0, none⟩)) rfl rfl (by kernel_rfl) (by kernel_rfl) (by kernel_rfl) (fun _ _ _ h => h) (.inl ⟨by rfl, fun w'' hS => by go_simp⟩) hS0 ?_
  (simp only [List.setIfInBounds_toArray, List.set_cons_zero, List.set_cons_succ])
  refine anyH_take 2 12 (.slice A0 64 c0) rfl rfl (by kernel_rfl) (by kernel_rfl) (by kernel_rfl) (fun _ _ _ h => h) (.inl ⟨by rfl, fun w'' hS => by have q0 := (HC.out w'' hS).1; go_simp⟩) hS0 ?_
  (simp only [List.setIfInBounds_toArray, List.set_cons_zero, List.set_cons_succ])
  refine anyH_take 3 13 (.slice (some ⟨g, 0, none⟩) 4 cap) rfl rfl (by kernel_rfl) (by kernel_rfl) (by kernel_rfl) (fun _ _ _ h => h) (.inl ⟨by rfl, fun w'' hS => by go_simp⟩) hS0 ?_
  (simp only [List.setIfInBounds_toArray, List.set_cons_zero, List.set_cons_succ])
  refine anyH_take 4 14 (.pointer (some ⟨g, 3, none⟩)) rfl rfl (by kernel_rfl) (by kernel_rfl) (by kernel_rfl) (fun _ _ _ h => h) (.inl ⟨by rfl, fun w'' hS => by go_simp⟩) hS0 ?_
  (simp only [List.setIfInBounds_toArray, List.set_cons_zero, List.set_cons_succ])
  refine anyH_take 5 15 (.slice A3 64 c3) rfl rfl (by kernel_rfl) (by kernel_rfl) (by kernel_rfl) (fun _ _ _ h => h) (.inl ⟨by rfl, fun w'' hS => by have q0 := (HC.out w'' hS).2; go_simp⟩) hS0 ?_
  (simp only [List.setIfInBounds_toArray, List.set_cons_zero, List.set_cons_succ])
  have hbB : Blk (w2.drew.alloc (.cells #[.slice A0 64 c0, .slice A3 64 c3] 68)) w2.heap.size 68 #[.slice A0 64 c0, .slice A3 64 c3] := Blk.new w2.drew _ _
  have hfB : Fr (fun _ => False) w2 (w2.drew.alloc (.cells #[.slice A0 64 c0, .slice A3 64 c3] 68)) := ((Fr.refl _ w2).drew).alloc _
  have hlB : Lst (w2.drew.alloc (.cells #[.slice A0 64 c0, .slice A3 64 c3] 68)) 0 (.slice (some ⟨w2.heap.size, 0, none⟩) 2 2) [a.take 64, b.drop 64] :=
    ⟨[.slice A0 64 c0, .slice A3 64 c3], own_of_blk hbB (Nat.zero_le _) (by rfl) (by simp [maxLen]),
      Els.two (Els.one HD.out.2.2.1 HD.out.1.1 (HD.out.1.2.1.keep hfB (fun _ _ q => q)) HD.out.1.2.2 (els_old HD.out.1.2.1 (by omega)))
        (Els.one HD.out.2.2.2 HD.out.2.1.1 (HD.out.2.1.2.1.keep hfB (fun _ _ q => q)) HD.out.2.1.2.2 (els_old HD.out.2.1.2.1 (by omega)))⟩
  have h64 : All64 [a.take 64, b.drop 64] := fun l hl => by
    simp at hl
    rcases hl with rfl | rfl
    · exact HD.out.2.2.1
    · exact HD.out.2.2.2
  have HS := Lib.hid (rsectors_any hlB h64 (by simp))
  have HFB := Lib.hid hfB
  clear hbB hfB hlB h64
  refine anyH_value 6 16 (.slice (some ⟨w2.heap.size, 0, none⟩) 2 2) (w2.drew.alloc (.cells #[.slice A0 64 c0, .slice A3 64 c3] 68)) (by kernel_rfl) rfl rfl (by rfl) (by go_simp) (HFB.out.mono (fun _ _ q => q.elim)) ?_
  (simp only [List.setIfInBounds_toArray, List.set_cons_zero, List.set_cons_succ])
  refine anyH_enter 7 17 (by kernel_rfl) rfl rfl (by rfl) (by go_simp) (HS.out.mono ?_)
  rintro e w3 ⟨v3, rfl, ho3, hf3⟩
  have hsec : (sectorsL [a.take 64, b.drop 64]).flatten = tornOf a b := by
    rw [sectorsL_two]
    simp [sectorsL, tornOf]
  have hlt : (tornOf a b).length = 128 := by unfold tornOf; rw [List.length_append, HD.out.2.2.1, HD.out.2.2.2]
  rw [hsec] at ho3
  have hone : ([a.take 64, b.drop 64].length + 1) / 2 = 1 := by simp
  rw [hone] at ho3
  rcases ho3.2 with ⟨_, q⟩ | ⟨g3, cap3, cur3, rfl, hg3, hh3, hn3, hm3, hz3, ht3⟩
  · omega
  have hra : w3.rangeAt g3 0 (cellsB (tornOf a b)) := fun j u hu => by
    have := ho3.cells (g := g3) rfl j u hu
    rw [Addr.add_lit] at this
    exact this
  have hfw := HFB.out.trans hf3 (fun _ _ q => q)
  have HW3 := Lib.hid (And.intro hra (And.intro hfw (And.intro hlt (HF.out.1.keep hfw (fun q => q)))))
  clear hra hfw hlt ho3 hf3 hsec hone hg3 hh3 hm3 hz3 ht3 HS
  refine ⟨_, rfl, HW3.out.2.1.mono (fun _ _ q => q.elim), ?_⟩
  (simp only [List.setIfInBounds_toArray, List.set_cons_zero, List.set_cons_succ])
  refine anyH_value 8 18 (.pointer (some ⟨g3, 0, none⟩)) w3 (by kernel_rfl) rfl rfl (by rfl) (by go_simp) (HW3.out.2.1.mono (fun _ _ q => q.elim)) ?_
  (simp only [List.setIfInBounds_toArray, List.set_cons_zero, List.set_cons_succ])
  refine anyH_value 9 19 (.agg (cellsB (tornOf a b)).toArray) w3 (by kernel_rfl) rfl rfl (by rfl) (run_load_mid 45 (.tmp 18) rfl g3 0 rfl (cellsB (tornOf a b)) _ HW3.out.1 Tryz.underlying45 rfl (by rw [infoSector, cellsB_len, HW3.out.2.2.1])) (HW3.out.2.1.mono (fun _ _ q => q.elim)) ?_
  (simp only [List.setIfInBounds_toArray, List.set_cons_zero, List.set_cons_succ])
  have hst : Fr (fun j => j = w.heap.size + 2) w3 (w3.setCells (w.heap.size + 2) 0 (cellsB (tornOf a b))) := Fr.setCells (F := fun j => j = w.heap.size + 2) (.inl rfl) (Fr.refl _ _)
  refine anyH_skip 10 (w3.setCells (w.heap.size + 2) 0 (cellsB (tornOf a b))) (by kernel_rfl) rfl rfl (by rfl) (run_store_mid 45 (.tmp 4) (.tmp 19) rfl (w.heap.size + 2) 0 (cellsB (tornOf a b)).toArray rfl rfl (HW3.out.2.2.2.there (by simp [cellsB_len, nought_len, HW3.out.2.2.1])) (by rw [infoSector]; simp [cellsB_len, HW3.out.2.2.1]) (all_oneCell_toArray (cellsB_one _))) ((HW3.out.2.1.mono (fun _ _ q => q.elim)).trans hst (fun _ _ q => q)) ?_
  refine wpAnyH_done (by kernel_rfl) ?_ _
  have hov := HW3.out.2.2.2.over (o := 0) (m := tornOf a b) (by rw [HW3.out.2.2.1, nought_len]; omega)
  rw [patch_all (by rw [HW3.out.2.2.1, nought_len])] at hov
  have hfz := Fr.setCells (F := fun _ => False) (b := w.heap.size + 2) (vs := cellsB (tornOf a b)) (o := 0) (.inr (by omega : w.heap.size ≤ w.heap.size + 2)) (HF.out.2.1.trans HW3.out.2.1 (fun _ _ q => q))
  have HZ := Lib.hid (And.intro hov hfz)
  clear hov hfz hst
  generalize w3.setCells (w.heap.size + 2) 0 (cellsB (tornOf a b)) = w4 at *
  go_wp2_with fail
  refine bodyPost_ret (results_cell_row rfl _ _ (w.heap.size + 2) 45 (cellsB (tornOf a b)).toArray (0, 0) _ rfl HZ.out.1 Tryz.underlying45 rfl (by rw [infoSector]; simp [cellsB_len, HW3.out.2.2.1])) rfl ?_
  exact ⟨rfl, HZ.out.2⟩
end Go.Proofs.YtjdbgojnpnlblaaGreat

namespace Go.Proofs.YtjdbgojnpnlblaaGreat
open Go.RowKit

set_option maxRecDepth 100000 in
theorem be_add (a n : Nat) (s : Nat) : be (a * 256 ^ s + n) s = be n s := by
  unfold be
  apply List.map_congr_left
  intro i hi
  have hi := List.mem_range.1 hi
  have e : 256 ^ s = 256 ^ (s - 1 - i) * (256 * 256 ^ i) := by
    rw [← Nat.pow_succ', ← Nat.pow_add]
    congr 1
    omega
  have hp : 0 < 256 ^ (s - 1 - i) := Nat.pow_pos (by omega)
  have e2 : (a * 256 ^ s + n) / 256 ^ (s - 1 - i) = 256 * (a * 256 ^ i) + n / 256 ^ (s - 1 - i) := by
    rw [e]
    have : a * (256 ^ (s - 1 - i) * (256 * 256 ^ i)) + n = n + 256 ^ (s - 1 - i) * (256 * (a * 256 ^ i)) := by
      rw [Nat.add_comm]
      congr 1
      rw [Nat.mul_left_comm]
      congr 1
      rw [Nat.mul_left_comm]
    rw [this, Nat.add_mul_div_left _ _ hp, Nat.add_comm]
  rw [e2]
  congr 1
  omega
set_option maxRecDepth 100000 in
theorem be_numOf : ∀ l : List UInt8, be (numOf l) l.length = l
  | [] => rfl
  | c :: l => by
    have e : c :: l = [c] ++ l := rfl
    have h1 : numOf (c :: l) = c.toNat * 256 ^ l.length + numOf l := by
      rw [e, numOf_app]
      simp [numOf]
    rw [List.length_cons, be_succ, h1, be_add, be_numOf l]
    congr 1
    have hl := numOf_lt l
    have hp : 0 < 256 ^ l.length := Nat.pow_pos (by omega)
    have e3 : (c.toNat * 256 ^ l.length + numOf l) / 256 ^ l.length = c.toNat := by
      rw [Nat.mul_comm, Nat.mul_add_div hp, Nat.div_eq_of_lt hl, Nat.add_zero]
    rw [e3]
    have hc := UInt8.toNat_lt c
    rw [Nat.mod_eq_of_lt (by omega), UInt8.ofNat_toNat]
set_option maxRecDepth 100000 in
theorem tagB_hd {h : List UInt8} (hl : h.length = 64) : tagB (hdOf h) (h.drop 16) = h := by
  have e0 : be (numOf (h.take 8)) 8 = h.take 8 := by
    have := be_numOf (h.take 8)
    rwa [List.length_take, hl] at this
  have e1 : be (numOf ((h.drop 8).take 4)) 4 = (h.drop 8).take 4 := by
    have := be_numOf ((h.drop 8).take 4)
    rwa [List.length_take, List.length_drop, hl] at this
  have e2 : be (numOf ((h.drop 12).take 2)) 2 = (h.drop 12).take 2 := by
    have := be_numOf ((h.drop 12).take 2)
    rwa [List.length_take, List.length_drop, hl] at this
  have e3 : be (numOf ((h.drop 14).take 2)) 2 = (h.drop 14).take 2 := by
    have := be_numOf ((h.drop 14).take 2)
    rwa [List.length_take, List.length_drop, hl] at this
  unfold tagB hdOf
  rw [e0, e1, e2, e3]
  have s0 : (h.drop 14).take 2 ++ h.drop 16 = h.drop 14 := by
    have := List.take_append_drop 2 (h.drop 14)
    rwa [List.drop_drop] at this
  have s1 : (h.drop 12).take 2 ++ h.drop 14 = h.drop 12 := by
    have := List.take_append_drop 2 (h.drop 12)
    rwa [List.drop_drop] at this
  have s2 : (h.drop 8).take 4 ++ h.drop 12 = h.drop 8 := by
    have := List.take_append_drop 4 (h.drop 8)
    rwa [List.drop_drop] at this
  rw [s0, s1, s2]
  exact List.take_append_drop 8 h
set_option maxRecDepth 100000 in
theorem tagB_inj {x : Hd} {p q : List UInt8} (h : tagB x p = tagB x q) : p = q := by
  have := congrArg (fun l => l.drop 16) h
  simpa [drop_tagB] using this
set_option maxRecDepth 100000 in
theorem numOf2_lt {l : List UInt8} (h : l.length ≤ 2) : numOf l < 65536 := by
  have h1 := numOf_lt l
  exact Nat.lt_of_lt_of_le h1 (Nat.pow_le_pow_right (by omega) h)

/-- The row that sectors begin with, by definition: the bytes of the one whose halves stand there. -/
def pcsOf (ss : List (List UInt8)) (m : Nat) : List UInt8 := (List.range m).flatMap fun k => (hv ss k).drop 16
def refJ (ss : List (List UInt8)) : Option (List UInt8) :=
  if ss = [] then none else
  if mayT (hdOf (hv ss 0)).c ((hdOf (hv ss 0)).n : Int) = true ∧ 1 ≤ (hdOf (hv ss 0)).m ∧ (hdOf (hv ss 0)).m ≤ 2 * ss.length then
    if numOf (((hv ss 0).drop 16).take 4) ≤ 32768 ∧ many (numOf (((hv ss 0).drop 16).take 4)) = (hdOf (hv ss 0)).m then
      if (List.range (hdOf (hv ss 0)).m).all (fun i => decide (halfL (hdOf (hv ss 0)).c (hdOf (hv ss 0)).n (hdOf (hv ss 0)).m (((pcsOf ss (hdOf (hv ss 0)).m).drop 4).take (numOf (((hv ss 0).drop 16).take 4))) i = hv ss i)) = true then
        some (((pcsOf ss (hdOf (hv ss 0)).m).drop 4).take (numOf (((hv ss 0).drop 16).take 4)))
      else none
    else none
  else none
set_option maxRecDepth 100000 in
theorem pcsOf_succ (ss : List (List UInt8)) (m : Nat) : pcsOf ss (m + 1) = pcsOf ss m ++ (hv ss m).drop 16 := by
  simp [pcsOf, List.range_succ]
set_option maxRecDepth 100000 in
theorem pcsOf_len {ss : List (List UInt8)} (hs : ∀ s ∈ ss, s.length = 128) (m : Nat) : (pcsOf ss m).length = m * 48 := by
  induction m with
  | zero => rfl
  | succ m ih =>
    rw [pcsOf_succ, List.length_append, ih, List.length_drop, hv_len hs]
    omega
set_option maxRecDepth 100000 in
theorem pcsOf_at {ss : List (List UInt8)} (hs : ∀ s ∈ ss, s.length = 128) {m i : Nat} (hi : i < m) (z : List UInt8) : ((pcsOf ss m ++ z).drop (48 * i)).take 48 = (hv ss i).drop 16 := by
  induction m generalizing z with
  | zero => omega
  | succ m ih =>
    rw [pcsOf_succ, List.append_assoc]
    by_cases e : i = m
    · subst e
      have h1 : (pcsOf ss i ++ ((hv ss i).drop 16 ++ z)).drop (48 * i) = (hv ss i).drop 16 ++ z := List.drop_left' (by rw [pcsOf_len hs]; omega)
      rw [h1]
      exact List.take_left' (by rw [List.length_drop, hv_len hs])
    · exact ih (by omega) _
set_option maxRecDepth 100000 in
theorem all_zero {l : List UInt8} {k : Nat} (hl : l.length = k) : l.all (· == 0) = true ↔ nought k = l := by
  subst hl
  unfold nought
  rw [List.all_eq_true]
  constructor
  · intro h
    exact (List.eq_replicate_iff.2 ⟨rfl, fun b hb => by simpa using h b hb⟩).symm
  · intro h b hb
    have := (List.eq_replicate_iff.1 h.symm).2 b hb
    simpa using this
set_option maxRecDepth 100000 in
theorem refJ_eq {ss : List (List UInt8)} (hs : ∀ s ∈ ss, s.length = 128) : refJ ss = joinOf ss := by
  unfold refJ
  split
  · rename_i h
    subst h
    rfl
  rename_i hne
  have hlen0 : 0 < ss.length := List.length_pos_iff.2 hne
  obtain ⟨x, hx⟩ : ∃ x, x = hdOf (hv ss 0) := ⟨_, rfl⟩
  have hjn : ∀ o, togOf ss = o → mayT x.c (x.n : Int) = true → joinOf ss = o.bind conOf := fun o ho hm => by
    unfold joinOf togAll tagAt
    rw [if_neg hne, ← hx]
    simp only [hm, if_true]
    rw [ho]
  rw [← hx]
  by_cases hm : mayT x.c (x.n : Int) = true
  rotate_left
  · rw [if_neg (fun q => hm q.1)]
    unfold joinOf togAll tagAt
    rw [if_neg hne, ← hx]
    simp only [hm]
    rfl
  by_cases hmm : 1 ≤ x.m ∧ x.m ≤ 2 * ss.length
  rotate_left
  · rw [if_neg (fun q => hmm q.2)]
    rw [hjn none (by unfold togOf; rw [← hx]; simp only; rw [if_neg (fun q => hmm ⟨q.1, q.2.1⟩)]) hm]
    rfl
  rw [if_pos ⟨hm, hmm⟩]
  have hfit : x.c < 18446744073709551616 ∧ x.n < 4294967296 ∧ x.m < 65536 := by
    refine ⟨?_, ?_, ?_⟩
    · unfold mayT at hm; simp at hm; omega
    · unfold mayT at hm; simp at hm; omega
    · rw [hx]
      exact numOf2_lt (by rw [List.length_take]; omega)
  obtain ⟨k, hk⟩ : ∃ k, k = numOf (((hv ss 0).drop 16).take 4) := ⟨_, rfl⟩
  rw [← hk]
  obtain ⟨l, hl⟩ : ∃ l, l = pcsOf ss x.m := ⟨_, rfl⟩
  rw [← hl]
  have hll : l.length = x.m * 48 := by rw [hl, pcsOf_len hs]
  have hpc : ∀ i, i < x.m → (l.drop (48 * i)).take 48 = (hv ss i).drop 16 := fun i hi => by
    have := pcsOf_at hs hi []
    rw [List.append_nil, ← hl] at this
    exact this
  have hk4 : numOf (l.take 4) = k := by
    rw [hk]
    have h0 := hpc 0 (by omega)
    rw [Nat.mul_zero, List.drop_zero] at h0
    rw [← h0, List.take_take]
    rfl
  by_cases hh : (List.range x.m).all (fun k => hdEq (hdOf (hv ss k)) ⟨x.c, x.n, k, x.m⟩) = true
  · rw [hjn (some l) (by unfold togOf; rw [← hx]; simp only; rw [if_pos ⟨hmm.1, hmm.2, hh⟩, hl]; rfl) hm]
    show _ = conOf l
    unfold conOf
    simp only [hk4]
    by_cases hkk : k ≤ 32768 ∧ many k = x.m
    rotate_left
    · rw [if_neg hkk, if_pos]
      by_cases h1 : 32768 < k
      · exact .inr (.inl h1)
      · refine .inr (.inr fun q => hkk ⟨by omega, ?_⟩)
        rw [hll] at q
        omega
    have hcond : ¬ (l = [] ∨ 32768 < k ∨ many k * 48 ≠ l.length) := by
      rintro (q | q | q)
      · rw [q] at hll; simp at hll; omega
      · omega
      · rw [hll, hkk.2] at q; exact q rfl
    rw [if_pos hkk, if_neg hcond]
    have hmk : k + 4 ≤ x.m * 48 := by have := hkk.2; unfold many at this; omega
    obtain ⟨b, hb⟩ : ∃ b, b = (l.drop 4).take k := ⟨_, rfl⟩
    rw [← hb]
    have hbl : b.length = k := by rw [hb, List.length_take, List.length_drop]; omega
    have hcut : l = l.take 4 ++ (b ++ l.drop (4 + k)) := by
      have h1 := List.take_append_drop 4 l
      have h2 := List.take_append_drop k (l.drop 4)
      rw [List.drop_drop] at h2
      rw [hb, h2, h1]
    have hb4 : be b.length 4 = l.take 4 := by
      have := be_numOf (l.take 4)
      rw [hk4, List.length_take] at this
      rw [hbl]
      have e : min 4 l.length = 4 := by omega
      rwa [e] at this
    have hiff : ((List.range x.m).all (fun i => decide (halfL x.c x.n x.m b i = hv ss i)) = true) ↔ (l.drop (4 + k)).all (· == 0) = true := by
      have hz : (l.drop (4 + k)).length = many b.length * 48 - 4 - b.length := by rw [List.length_drop, hbl, hkk.2]; omega
      rw [all_zero hz]
      have hpad : padB b = l ↔ nought (many b.length * 48 - 4 - b.length) = l.drop (4 + k) := by
        unfold padB
        rw [hb4]
        constructor
        · intro h
          rw [hcut] at h
          have h1 := List.append_cancel_left (show l.take 4 ++ (b ++ nought (many b.length * 48 - 4 - b.length)) = l.take 4 ++ (b ++ l.drop (4 + k)) from by
            have e : l.take 4 ++ (b ++ l.drop (4 + k)) = l := hcut.symm
            have h' := h
            rw [e] at h'
            rw [e]
            exact h')
          exact List.append_cancel_left h1
        · intro h
          rw [h]
          exact hcut.symm
      rw [← hpad]
      have hpl := padB_len b
      rw [hbl, hkk.2] at hpl
      rw [List.all_eq_true]
      have hhd : ∀ i, i < x.m → hv ss i = tagB ⟨x.c, x.n, i, x.m⟩ ((l.drop (48 * i)).take 48) := fun i hi => by
        have h1 := tagB_hd (hv_len hs i)
        have h2 := hdEq_iff.1 (List.all_eq_true.1 hh i (List.mem_range.2 hi))
        rw [h2] at h1
        rw [hpc i hi]
        exact h1.symm
      constructor
      · intro h
        rw [← pieces_cat hpl, ← pieces_cat hll]
        have : ∀ K, K ≤ x.m → (List.range K).flatMap (fun i => ((padB b).drop (48 * i)).take 48) = (List.range K).flatMap (fun i => (l.drop (48 * i)).take 48) := fun K => by
          induction K with
          | zero => intro _; rfl
          | succ K ih =>
            intro hK
            rw [List.range_succ, List.flatMap_append, List.flatMap_append, ih (by omega)]
            have h3 := of_decide_eq_true (h K (List.mem_range.2 (by omega)))
            rw [hhd K (by omega)] at h3
            have h4 := tagB_inj (p := ((padB b).drop (48 * K)).take 48) h3
            simp only [List.flatMap_cons, List.flatMap_nil, List.append_nil]
            rw [h4]
        exact this _ (Nat.le_refl _)
      · intro h i hi
        have hi := List.mem_range.1 hi
        apply decide_eq_true
        rw [hhd i hi]
        unfold halfL
        rw [h]
    by_cases hz : (l.drop (4 + k)).all (· == 0) = true
    · rw [if_pos (hiff.2 hz), if_pos hz]
    · rw [if_neg (fun q => hz (hiff.1 q)), if_neg hz]
  · rw [hjn none (by unfold togOf; rw [← hx]; simp only; rw [if_neg (fun q => hh q.2.2)]) hm]
    show _ = none
    split
    · rw [if_neg]
      intro q
      apply hh
      rw [List.all_eq_true] at q ⊢
      intro i hi
      have h1 := of_decide_eq_true (q i hi)
      rw [← h1]
      have hi := List.mem_range.1 hi
      exact hdEq_iff.2 (hd_tagB (x := ⟨x.c, x.n, i, x.m⟩) ⟨hfit.1, hfit.2.1, by show i < 65536; omega, hfit.2.2⟩ _)
    · rfl
end Go.Proofs.YtjdbgojnpnlblaaGreat

namespace Go.Proofs.YtjdbgojnpnlblaaGreat
open Go.RowKit

/-- What the reference's Join answers. -/
def RJoinR (w : World) (t : Nat × Nat) (o : Option (List UInt8)) (e : Ending) (w' : World) : Prop :=
  (o = none → e = .returned (.tuple #[.agg #[.int .u64 0, .int .i64 0], .slice none 0 0, .int .i64 0, .bool false])) ∧
    (∀ b, o = some b → ∃ A c, e = .returned (.tuple #[.agg #[.int .u64 (t.1 : Nat), .int .i64 (t.2 : Nat)], .slice A b.length c, .int .i64 (needN b.length : Nat), .bool true]) ∧ Rd w' A b.length b ∧ b.length ≤ c) ∧ Fr (fun _ => False) w w'
set_option maxRecDepth 100000 in
theorem results_rjoin {tmps : Array Value} {w : World} {g2 : Nat} {x y a b c : Value} (h2 : tmps.getD 2 undef = .pointer (some ⟨g2, 0, none⟩)) (h3 : tmps.getD 3 undef = a) (h4 : tmps.getD 4 undef = b) (h5 : tmps.getD 5 undef = c)
    (b2 : Blk w g2 91 #[x, y]) : (results Tryz.f50 tmps).run Tryz.prog w = .ok (.tuple #[.agg #[x, y], a, b, c]) w := by
  have e2 := run_loadVar_row (P := Tryz.prog) w g2 91 91 #[x, y] (0, 0) _ b2 Tryz.underlying91 rfl infoTag
  have h2' : tmps[2]?.getD undef = .pointer (some ⟨g2, 0, none⟩) := by simpa using h2
  have h3' : tmps[3]?.getD undef = a := by simpa using h3
  have h4' : tmps[4]?.getD undef = b := by simpa using h4
  have h5' : tmps[5]?.getD undef = c := by simpa using h5
  simp [results, Tryz.f50, h2', h3', h4', h5', asAddr, e2]
set_option maxRecDepth 100000 in
/-- 's[i:j]' of bytes, empty too. -/
theorem slice_any2 {w : World} {A : Option Addr} {n c : Nat} {l : List UInt8} (hr : Rd w A n l) (hnc : n ≤ c) (i j : Nat) (hij : i ≤ j) (hj : j ≤ n) :
    ∃ A', (∀ W, (Instr.slice 68 (.slice A n c) (some (.int .i64 (i : Int))) (some (.int .i64 (j : Int))) none).run Tryz.prog W = .ok (.slice A' (j - i) (c - i)) W) ∧ Rd w A' (j - i) ((l.drop i).take (j - i)) := by
  refine ⟨_, fun W => ?_, (hr.drop (k := i) (by omega) hnc).take (k := j - i) (by omega)⟩
  rw [run_slice_lh W 68 A n c (by kernel_rfl) .i64 .i64 i j (by omega) (by omega) (by omega), size25]
  simp [Result.andThen, sliced]
set_option maxRecDepth 100000 in
theorem slice_tail {w : World} {ad : Addr} {n c : Nat} {l : List UInt8} (hr : Rd w (some ad) n l) (hnc : n ≤ c) (i : Nat) (hi0 : 0 < i) (hi : i < n) :
    (∀ W, (Instr.slice 68 (.slice (some ad) n c) (some (.int .i64 (i : Int))) none none).run Tryz.prog W = .ok (.slice (some ⟨ad.block, ad.off + i, none⟩) (n - i) (c - i)) W) ∧ Rd w (some ⟨ad.block, ad.off + i, none⟩) (n - i) (l.drop i) := by
  have e : ad.add i = ⟨ad.block, ad.off + i, none⟩ := by simp [Addr.add]; omega
  have h := hr.drop (k := i) (by omega) hnc
  rw [if_neg (by omega), Option.map_some, e] at h
  refine ⟨fun W => ?_, h⟩
  rw [run_slice_l W 68 (some ad) n c (by kernel_rfl) .i64 i (by omega) (by omega), size25]
  have hci : c ≠ i := by omega
  simp [Result.andThen, sliced, hci, e]
set_option maxRecDepth 100000 in
theorem slice_cut {w : World} {ad : Addr} {n c : Nat} {l : List UInt8} (hr : Rd w (some ad) n l) (hnc : n ≤ c) (i j : Nat) (hi0 : 0 < i) (hi : i < n) (hij : i ≤ j) (hj : j ≤ n) :
    (∀ W, (Instr.slice 68 (.slice (some ad) n c) (some (.int .i64 (i : Int))) (some (.int .i64 (j : Int))) none).run Tryz.prog W = .ok (.slice (some ⟨ad.block, ad.off + i, none⟩) (j - i) (c - i)) W) ∧ Rd w (some ⟨ad.block, ad.off + i, none⟩) (j - i) ((l.drop i).take (j - i)) := by
  have e : ad.add i = ⟨ad.block, ad.off + i, none⟩ := by simp [Addr.add]; omega
  have h := (hr.drop (k := i) (by omega) hnc).take (k := j - i) (by omega)
  rw [if_neg (by omega), Option.map_some, e] at h
  refine ⟨fun W => ?_, h⟩
  rw [run_slice_lh W 68 (some ad) n c (by kernel_rfl) .i64 .i64 i j (by omega) (by omega) (by omega), size25]
  have hci : c ≠ i := by omega
  have hjn : ((j : Int) - (i : Int)).toNat = j - i := by omega
  simp [Result.andThen, sliced, hci, e, hjn]
set_option maxRecDepth 100000 in
theorem str_neq (a b : List UInt8) (w : World) : (binOp .neq 9 (.string ⟨a.toArray⟩) (.string ⟨b.toArray⟩)).run Tryz.prog w = .ok (.bool (!decide (a = b))) w := by
  by_cases h : a = b
  · subst h
    simp [binOp, Op.stringOp]
  · have hne : (⟨a.toArray⟩ : ByteArray) ≠ ⟨b.toArray⟩ := fun q => h (by simpa using q)
    simp [binOp, Op.stringOp, h, hne]

set_option maxRecDepth 100000 in
theorem and_fr {w1 W : World} {a : Addr} {b : Option Value} (h : Fr (fun _ => False) w1 W ∧ W.cell? a = b) : Fr (fun _ => False) w1 W := h.1
/-- A list of rows of bytes, and what is read of it wherever only new memory was made since. -/
structure Lists (w : World) (g n : Nat) (ls : List (List UInt8)) : Prop where
  len : ls.length = n
  at_ : ∀ W, Fr (fun _ => False) w W → ∀ i l, ls[i]? = some l → ∃ A c, W.cell? ⟨g, i, none⟩ = some (.slice A l.length c) ∧ l.length ≤ c ∧ Rd W A l.length l
set_option maxRecDepth 100000 in
theorem Lst.lists {w : World} {base : Nat} {v : Value} {ls : List (List UInt8)} (h : Lst w base v ls) (hn : 0 < ls.length) : ∃ g cap, v = .slice (some ⟨g, 0, none⟩) ls.length cap ∧ ls.length ≤ cap ∧ Lists w g ls.length ls := by
  obtain ⟨g, cap, hv, _, _, hc, _, hat⟩ := h.at_ hn
  exact ⟨g, cap, hv, hc, rfl, fun W f i l hi => by
    obtain ⟨A, c, h1, h2, h3, _⟩ := hat i l hi
    exact ⟨A, c, cell_new h1 f, h2, h3.keep f (fun _ _ q => q)⟩⟩
set_option maxRecDepth 100000 in
theorem Lists.new {w w' : World} {g n : Nat} {ls : List (List UInt8)} (h : Lists w g n ls) (f : Fr (fun _ => False) w w') : Lists w' g n ls := ⟨h.len, fun W k => h.at_ W (f.trans k (fun _ _ q => q))⟩

set_option maxRecDepth 100000 in
set_option maxHeartbeats 4000000 in
theorem rjoin_any {w : World} {v : Value} {ss : List (List UInt8)} (h : SecV w v ss) (hn : ss.length ≤ 1000) : Calls Tryz.prog 50 #[v] w (RJoinR w (tagAt ss) (refJ ss)) := by
  have hf0 : Fr (fun _ => False) w (w.alloc (.cells #[.int .u64 0, .int .i64 0] 91)) := (Fr.refl _ w).alloc _
  have hb0 : Blk (w.alloc (.cells #[.int .u64 0, .int .i64 0] 91)) w.heap.size 91 #[.int .u64 0, .int .i64 0] := Blk.new _ _ _
  have HP := Lib.hid (rparts_any (h.new hf0) hn)
  have H0 := Lib.hid (And.intro hf0 hb0)
  have hs128 : ∀ s ∈ ss, s.length = 128 := fun s hm => by
    obtain ⟨A, ca, _, _, _, h3⟩ := h
    obtain ⟨i, hi⟩ := List.getElem?_of_mem hm
    have hlt : i < ss.length := (List.getElem?_eq_some_iff.1 hi).1
    obtain ⟨b, off, _, hs⟩ := h3 (by omega)
    exact (hs i s hi).1
  have HS := Lib.hid hs128
  obtain ⟨A, ca, rfl, _, _, _⟩ := h
  obtain ⟨o, ho⟩ : ∃ o, o = refJ ss := ⟨_, rfl⟩
  obtain ⟨t, htt⟩ : ∃ t, t = tagAt ss := ⟨_, rfl⟩
  rw [← ho, ← htt]
  have HOO := Lib.hid ho
  have HTA := Lib.hid htt
  clear hf0 hb0 hs128 ho htt
  go_enter Tryz.func50, Tryz.ntmps50
  go_wp2_with fail
  (with_reducible refine HP.out.mono ?_)
  rintro e w1 ⟨v6, rfl, hl6, hf1⟩
  have H1 := Lib.hid (And.intro hl6 (And.intro (H0.out.1.trans hf1 (fun _ _ q => q)) (H0.out.2.keep hf1 (fun q => q))))
  clear hl6 hf1 HP H0
  rcases Nat.eq_zero_or_pos ss.length with h0 | h0
  · have hnil : o = none := by rw [HOO.out, List.eq_nil_of_length_eq_zero h0]; rfl
    have HNIL := Lib.hid hnil
    obtain ⟨A6, c6, hv6, _, _⟩ := H1.out.1.form
    rw [partsL_len, h0] at hv6
    subst hv6
    have g0 := H1.out.2.2.cell 0
    have g1 := H1.out.2.2.cell 1
    have k0 := H1.out.2.2.frozen 0
    have k1 := H1.out.2.2.frozen 1
    simp at g0 g1
    clear hnil h0
    go_wp2_with fail
    refine bodyPost_ret (results_rjoin (g2 := w.heap.size) rfl rfl rfl rfl ((H1.out.2.2.set_ 0 (.int .u64 0)).set_ 1 (.int .i64 0))) rfl ?_
    rw [HNIL.out]
    exact ⟨fun _ => rfl, (fun b hb => by cases hb), (H1.out.2.1.setCell (p := ⟨w.heap.size, 0, none⟩) (.inr (Nat.le_refl _)) _).setCell (p := ⟨w.heap.size, 1, none⟩) (.inr (Nat.le_refl _)) _⟩
  · obtain ⟨g, cap, rfl, hcap, hls⟩ := H1.out.1.lists (by rw [partsL_len]; omega)
    obtain ⟨M, hM⟩ : ∃ M, M = (partsL ss).length := ⟨_, rfl⟩
    rw [← hM] at hcap hls ⊢
    have hMN : M = 2 * ss.length := by rw [hM, partsL_len]
    have HM := Lib.hid hMN
    have HLS := Lib.hid hls
    have hMi : ((M : Int) == 0) = false := by simp; omega
    have hM9 : M ≤ 2000 ∧ 0 < M := by omega
    have hp0 : (partsL ss)[0]? = some (hv ss 0) := partsL_at (by omega)
    have hp64 : (hv ss 0).length = 64 := hv_len HS.out 0
    obtain ⟨A0, c0, hc0, hd0, hr0⟩ := hls.at_ w1 (Fr.refl _ _) 0 _ hp0
    rw [hp64] at hc0 hd0 hr0
    obtain ⟨ad0, _, rfl, _, _⟩ := hr0.at_ (k := 0) (by omega)
    have hTg := fun W (f : Fr (fun _ => False) w1 W) => rtag_any (w := W) (c := c0) (hr0.keep f (fun _ _ q => q)) hd0
    obtain ⟨ad1, e1, hs1, hr1⟩ := slice_part (c := c0) hr0 hd0 14 16 (by omega) (by omega)
    injection e1 with e1
    subst e1
    obtain ⟨ad1, e1, hs2, hr2⟩ := slice_part (c := c0) hr0 hd0 16 20 (by omega) (by omega)
    injection e1 with e1
    subst e1
    have ea1 : ad0.add 14 = ⟨ad0.block, ad0.off + 14, none⟩ := by simp [Addr.add]
    have ea2 : ad0.add 16 = ⟨ad0.block, ad0.off + 16, none⟩ := by simp [Addr.add]
    rw [ea1] at hs1 hr1
    rw [ea2] at hs2 hr2
    have hs1' : ∀ W, (Instr.slice 68 (.slice (some ad0) 64 c0) (some (.int .i64 14)) (some (.int .i64 16)) none).run Tryz.prog W = .ok (.slice (some ⟨ad0.block, ad0.off + 14, none⟩) 2 (c0 - 14)) W := hs1
    have hs2' : ∀ W, (Instr.slice 68 (.slice (some ad0) 64 c0) (some (.int .i64 16)) (some (.int .i64 20)) none).run Tryz.prog W = .ok (.slice (some ⟨ad0.block, ad0.off + 16, none⟩) 4 (c0 - 16)) W := hs2
    obtain ⟨x, hx⟩ : ∃ x, x = hdOf (hv ss 0) := ⟨_, rfl⟩
    have hxm : numOf ((((hv ss 0).drop 14)).take 2) = x.m := by rw [hx]; rfl
    have hxm9 : x.m < 65536 := by rw [← hxm]; exact numOf2_lt (by rw [List.length_take]; omega)
    obtain ⟨k, hk⟩ : ∃ k, k = numOf (((hv ss 0).drop 16).take 4) := ⟨_, rfl⟩
    have hk9 : k < 4294967296 := by
      rw [hk]
      exact Nat.lt_of_lt_of_le (numOf_lt _) (Nat.pow_le_pow_right (by omega) (by rw [List.length_take]; omega : (((hv ss 0).drop 16).take 4).length ≤ 4))
    have hg1 : ∀ W, Fr (fun _ => False) w1 W → Calls Tryz.prog 83 #[.slice (some ⟨ad0.block, ad0.off + 14, none⟩) 2 (c0 - 14)] W fun e w' => e = .returned (.int .u64 (x.m : Nat)) ∧ W = w' := fun W f => by
      rw [← hxm]
      exact rget_any (hr1.keep f (fun _ _ q => q)) (by omega)
    have hg2 : ∀ W, Fr (fun _ => False) w1 W → Calls Tryz.prog 83 #[.slice (some ⟨ad0.block, ad0.off + 16, none⟩) 4 (c0 - 16)] W fun e w' => e = .returned (.int .u64 (k : Nat)) ∧ W = w' := fun W f => by
      rw [hk]
      exact rget_any (hr2.keep f (fun _ _ q => q)) (by omega)
    have hrj : refJ ss = if mayT x.c (x.n : Int) = true ∧ 1 ≤ x.m ∧ x.m ≤ M then if k ≤ 32768 ∧ many k = x.m then if (List.range x.m).all (fun i => decide (halfL x.c x.n x.m (((pcsOf ss x.m).drop 4).take k) i = hv ss i)) = true then some (((pcsOf ss x.m).drop 4).take k) else none else none else none := by
      unfold refJ
      rw [if_neg (by intro q; rw [q] at h0; simp at h0), hk, hx, hMN]
    have htt : tagH (hv ss 0) = if mayT x.c (x.n : Int) then (x.c, x.n) else (0, 0) := by rw [hx]; rfl
    have hta : t = (x.c, x.n) := by rw [HTA.out, hx]; rfl
    have HO := Lib.hid (HOO.out.trans hrj)
    obtain ⟨⟨tc, tn⟩, ht⟩ : ∃ t, t = tagH (hv ss 0) := ⟨_, rfl⟩
    have HTT := Lib.hid (ht.trans htt)
    rw [← ht] at hTg
    obtain ⟨xc, xn, xp, xm⟩ := x
    simp only at hxm hxm9 hg1 HTT HO hta
    have HTA2 := Lib.hid hta
    have HTG := Lib.hid hTg
    have HG1 := Lib.hid hg1
    have HG2 := Lib.hid hg2
    have HSK : Hid (∀ W, Fr (fun _ => False) w1 W → Fr (fun _ => False) w1 W ∧ W.cell? ⟨g, 0, none⟩ = some (.slice (some ad0) 64 c0)) := Lib.hid fun W f => ⟨f, cell_new hc0 f⟩
    have hwm : IntKind.i64.wrap (xm : Int) = (xm : Int) := by simp [IntKind.wrap, IntKind.signed, IntKind.bits]; omega
    clear hM hMN hls hcap hp0 hp64 hc0 hr0 hTg hs1 hs2 hr1 hr2 ea1 ea2 hx hxm hk hg1 hg2 hrj htt hta ht h0
    go_upto_region 4 with fail
    go_cut [7, 8] (fun s7 s8 wx => ∃ g7 : Nat, s7 = .pointer (some ⟨g7, 0, none⟩) ∧ s8 = .int .i64 (xm : Nat) ∧ Hid (Blk wx g7 91 #[.int .u64 (tc : Nat), .int .i64 (tn : Nat)]) ∧ Hid (Fr (fun _ => False) w1 wx) ∧ w.heap.size < g7)
    case first =>
      go_region_held3 (fun w' => Fr (fun _ => False) w1 w' ∧ w'.cell? ⟨g, 0, none⟩ = some (.slice (some ad0) 64 c0))
        (first | (exact HSK.out _ (Fr.refl _ _).drew) | (exact HSK.out _ hfT) | (exact HSK.out _ (hfT.alloc _)) | (exact HSK.out _ (((Fr.refl _ _).drew).alloc _)) | (exact HSK.out _ (((Fr.refl _ _).alloc _).drew)) | (exact HSK.out _ ((hfT.setCell (p := ⟨w1.heap.size, 0, none⟩) (.inr (Nat.le_refl _)) _).setCell (p := ⟨w1.heap.size, 1, none⟩) (.inr (Nat.le_refl _)) _)))
        ((first
          | (go_at_call 84; refine (HTG.out _ (and_fr (by assumption))).mono ?_; rintro e wT ⟨rfl, hfT'⟩; have hfT := Fr.trans (F := fun _ => False) (and_fr (by assumption)) hfT' (fun _ _ q => q); first | (have hbk : Blk wT w1.heap.size 91 #[.int .u64 0, .int .i64 0] := (Blk.new w1.drew 91 #[.int .u64 0, .int .i64 0]).keep hfT' (fun q => q); have hq0 := hbk.cell 0; have hq1 := hbk.cell 1; have hz0 := hbk.frozen 0; have hz1 := hbk.frozen 1; simp at hq0 hq1; have HBK := Lib.hid hbk; clear hbk hfT') | clear hfT')
          | (go_at_call 83; refine (HG1.out _ (and_fr (by assumption))).mono ?_; rintro e w' ⟨rfl, rfl⟩)))
      all_goals
        go_wp2_with fail
        go_meet
        first
          | exact ⟨wT.heap.size, rfl, rfl, Lib.hid (Blk.new _ _ _), Lib.hid (hfT.alloc _), by have := H1.out.2.2.lt; have := hfT.size; omega⟩
          | exact ⟨w1.heap.size, rfl, rfl, Lib.hid ((HBK.out.set_ 0 _).set_ 1 _), Lib.hid ((hfT.setCell (p := ⟨w1.heap.size, 0, none⟩) (.inr (Nat.le_refl _)) _).setCell (p := ⟨w1.heap.size, 1, none⟩) (.inr (Nat.le_refl _)) _), H1.out.2.2.lt⟩
    case rest =>
      obtain ⟨g7, rfl, rfl, HB7, HF7, hg7⟩ := hcut
      clear hwm
      have HW7 := Lib.hid (And.intro (H1.out.2.1.trans HF7.out (fun _ _ q => q)) (H1.out.2.2.keep HF7.out (fun q => q)))
      have c0 := HB7.out.cell 0
      have c1 := HB7.out.cell 1
      simp at c0 c1
      go_wp2_with fail
      refine (rmay_any _ tc (tn : Int)).mono ?_
      rintro e w8 ⟨rfl, hf8⟩
      have H8 := Lib.hid (And.intro (HB7.out.keep hf8 (fun q => q)) (And.intro (HF7.out.trans hf8 (fun _ _ q => q)) (And.intro (HW7.out.1.trans hf8 (fun _ _ q => q)) (HW7.out.2.keep hf8 (fun q => q)))))
      clear hf8 HB7 HF7 HW7 c0 c1
      by_cases hbad : mayT xc (xn : Int) = true ∧ 1 ≤ xm ∧ xm ≤ M
      rotate_left
      · have HN : Hid (o = none) := Lib.hid (by rw [HO.out, if_neg hbad])
        cases hm : mayT xc (xn : Int) with
        | false =>
          have ht := HTT.out
          rw [hm] at ht
          have ht0 : tc = 0 ∧ tn = 0 := by injection ht with e1 e2; exact ⟨e1, e2⟩
          obtain ⟨rfl, rfl⟩ := ht0
          have hmt : mayT 0 ((0 : Nat) : Int) = false := rfl
          rw [hmt]
          clear hbad hm ht hmt
          have g0 := H8.out.2.2.2.cell 0
          have g1 := H8.out.2.2.2.cell 1
          have k0 := H8.out.2.2.2.frozen 0
          have k1 := H8.out.2.2.2.frozen 1
          simp at g0 g1
          go_wp2_with fail
          refine bodyPost_ret (results_rjoin (g2 := w.heap.size) rfl rfl rfl rfl ((H8.out.2.2.2.set_ 0 (.int .u64 0)).set_ 1 (.int .i64 0))) rfl ?_
          rw [HN.out]
          exact ⟨fun _ => rfl, (fun b hb => by cases hb), (H8.out.2.2.1.setCell (p := ⟨w.heap.size, 0, none⟩) (.inr (Nat.le_refl _)) _).setCell (p := ⟨w.heap.size, 1, none⟩) (.inr (Nat.le_refl _)) _⟩
        | true =>
          have ht := HTT.out
          rw [hm] at ht
          have ht0 : tc = xc ∧ tn = xn := by injection ht with e1 e2; exact ⟨e1, e2⟩
          obtain ⟨rfl, rfl⟩ := ht0
          rw [hm]
          by_cases hx1 : xm = 0
          · subst hx1
            clear hbad hm ht
            have g0 := H8.out.2.2.2.cell 0
            have g1 := H8.out.2.2.2.cell 1
            have k0 := H8.out.2.2.2.frozen 0
            have k1 := H8.out.2.2.2.frozen 1
            simp at g0 g1
            go_wp2_with fail
            refine bodyPost_ret (results_rjoin (g2 := w.heap.size) rfl rfl rfl rfl ((H8.out.2.2.2.set_ 0 (.int .u64 0)).set_ 1 (.int .i64 0))) rfl ?_
            rw [HN.out]
            exact ⟨fun _ => rfl, (fun b hb => by cases hb), (H8.out.2.2.1.setCell (p := ⟨w.heap.size, 0, none⟩) (.inr (Nat.le_refl _)) _).setCell (p := ⟨w.heap.size, 1, none⟩) (.inr (Nat.le_refl _)) _⟩
          · have hx2 : M < xm := by
              have : ¬ (1 ≤ xm ∧ xm ≤ M) := fun q => hbad ⟨hm, q⟩
              omega
            have hx3 : ¬ ((xm : Int) < 1) := by omega
            have hx4 : (M : Int) < (xm : Int) := by omega
            clear hbad hm ht
            have g0 := H8.out.2.2.2.cell 0
            have g1 := H8.out.2.2.2.cell 1
            have k0 := H8.out.2.2.2.frozen 0
            have k1 := H8.out.2.2.2.frozen 1
            simp at g0 g1
            go_wp2_with fail
            refine bodyPost_ret (results_rjoin (g2 := w.heap.size) rfl rfl rfl rfl ((H8.out.2.2.2.set_ 0 (.int .u64 0)).set_ 1 (.int .i64 0))) rfl ?_
            rw [HN.out]
            exact ⟨fun _ => rfl, (fun b hb => by cases hb), (H8.out.2.2.1.setCell (p := ⟨w.heap.size, 0, none⟩) (.inr (Nat.le_refl _)) _).setCell (p := ⟨w.heap.size, 1, none⟩) (.inr (Nat.le_refl _)) _⟩
      · obtain ⟨hm, hx1, hx2⟩ := hbad
        have ht := HTT.out
        rw [hm] at ht
        have ht0 : tc = xc ∧ tn = xn := by injection ht with e1 e2; exact ⟨e1, e2⟩
        obtain ⟨rfl, rfl⟩ := ht0
        rw [hm]
        have hx3 : ¬ ((xm : Int) < 1) := by omega
        have hx4 : ¬ ((M : Int) < (xm : Int)) := by omega
        have hx5 : xm ≠ 0 := by omega
        have HO2 : Hid (o = if k ≤ 32768 ∧ many k = xm then if (List.range xm).all (fun i => decide (halfL tc tn xm (((pcsOf ss xm).drop 4).take k) i = hv ss i)) = true then some (((pcsOf ss xm).drop 4).take k) else none else none) := Lib.hid (by rw [HO.out, if_pos ⟨hm, hx1, hx2⟩])
        have HMX := Lib.hid (And.intro hm (And.intro hx1 hx2))
        have hcl := (HSK.out _ H8.out.2.1).2
        have hwk : IntKind.i64.wrap (k : Int) = (k : Int) := by simp [IntKind.wrap, IntKind.signed, IntKind.bits]; omega
        have hMi0 : (0 : Int) < (M : Int) := by omega
        clear hm hx1 hx2 ht HO HTT
        go_wp2_with fail
        refine (HG2.out _ H8.out.2.1).mono ?_
        rintro e w' ⟨rfl, rfl⟩
        clear hcl
        by_cases hkk : k ≤ 32768 ∧ many k = xm
        rotate_left
        · have HN : Hid (o = none) := Lib.hid (by rw [HO2.out, if_neg hkk])
          by_cases hk1 : 32768 < k
          · have hk2 : decide ((32768 : Int) < (k : Int)) = true := by rw [decide_eq_true_eq]; omega
            clear hkk hk1
            have g0 := H8.out.2.2.2.cell 0
            have g1 := H8.out.2.2.2.cell 1
            have k0 := H8.out.2.2.2.frozen 0
            have k1 := H8.out.2.2.2.frozen 1
            simp at g0 g1
            go_wp2_with fail
            refine bodyPost_ret (results_rjoin (g2 := w.heap.size) rfl rfl rfl rfl ((H8.out.2.2.2.set_ 0 (.int .u64 0)).set_ 1 (.int .i64 0))) rfl ?_
            rw [HN.out]
            exact ⟨fun _ => rfl, (fun b hb => by cases hb), (H8.out.2.2.1.setCell (p := ⟨w.heap.size, 0, none⟩) (.inr (Nat.le_refl _)) _).setCell (p := ⟨w.heap.size, 1, none⟩) (.inr (Nat.le_refl _)) _⟩
          · have hk2 : decide ((32768 : Int) < (k : Int)) = false := by rw [decide_eq_false_iff_not]; omega
            have hk3 : many k ≠ xm := fun q => hkk ⟨by omega, q⟩
            have HMY := Lib.hid (rmany_any w8 k (by omega))
            have hk5 : ((many k : Int) == (xm : Int)) = false := by rw [beq_eq_false_iff_ne]; omega
            have hk6 : ((many k : Int) != (xm : Int)) = true := by rw [bne_iff_ne]; omega
            clear hkk hk1
            generalize many k = mk at *
            go_wp2_with fail
            (with_reducible refine HMY.out.mono ?_)
            rintro e w' ⟨rfl, rfl⟩
            have g0 := H8.out.2.2.2.cell 0
            have g1 := H8.out.2.2.2.cell 1
            have k0 := H8.out.2.2.2.frozen 0
            have k1 := H8.out.2.2.2.frozen 1
            simp at g0 g1
            go_wp2_with fail
            refine bodyPost_ret (results_rjoin (g2 := w.heap.size) rfl rfl rfl rfl ((H8.out.2.2.2.set_ 0 (.int .u64 0)).set_ 1 (.int .i64 0))) rfl ?_
            rw [HN.out]
            exact ⟨fun _ => rfl, (fun b hb => by cases hb), (H8.out.2.2.1.setCell (p := ⟨w.heap.size, 0, none⟩) (.inr (Nat.le_refl _)) _).setCell (p := ⟨w.heap.size, 1, none⟩) (.inr (Nat.le_refl _)) _⟩
        · obtain ⟨hk1, hk2⟩ := hkk
          have hk3 : decide ((32768 : Int) < (k : Int)) = false := by rw [decide_eq_false_iff_not]; omega
          have HMY := Lib.hid (rmany_any w8 k (by omega))
          rw [hk2] at HMY
          have HKK := Lib.hid (And.intro hk1 hk2)
          have hxm48 : k + 4 ≤ xm * 48 := by rw [← hk2]; unfold many; omega
          have hxM : xm ≤ M := HMX.out.2.2
          clear hk1 hk2
          go_wp2_with fail
          (with_reducible refine HMY.out.mono ?_)
          rintro e w' ⟨rfl, rfl⟩
          clear HMY hk3
          have HL8 := Lib.hid (HLS.out.new H8.out.2.1)
          go_wp2_with fail
          go_loopw [10, 11] (fun x i wr => ∃ (j : Nat) (v : Value), v = x ∧ i = .int .i64 j ∧ j ≤ xm ∧ Hid (wr.ownsRow w8.heap.size 5 1 v (pcsOf ss j).length (cellsB (pcsOf ss j))) ∧ Hid (Fr (fun _ => False) w8 wr)) (fun _ i _ => xm - (intOf i).toNat)
          case atStart => exact ⟨0, _, rfl, rfl, Nat.zero_le _, Lib.hid (World.ownsRow_nil _ _ _ _), Lib.hid (Fr.refl _ _)⟩
          case round =>
            obtain ⟨j, v, rfl, rfl, hj, HV, HF⟩ := hrel
            by_cases hlt : j < xm
            · obtain ⟨Aj, cj, hcj, hdj, hrj⟩ := HL8.out.at_ wr HF.out j (hv ss j) (partsL_at (by have := HM.out; omega))
              rw [hv_len HS.out j] at hcj hdj hrj
              obtain ⟨adj, _, rfl, _, _⟩ := hrj.at_ (k := 0) (by omega)
              obtain ⟨hsj, hrj2⟩ := slice_tail (c := cj) hrj hdj 16 (by omega) (by omega)
              have hsj' : ∀ W, (Instr.slice 68 (.slice (some adj) 64 cj) (some (.int .i64 16)) none none).run Tryz.prog W = .ok (.slice (some ⟨adj.block, adj.off + 16, none⟩) 48 (cj - 16)) W := hsj
              have HRJ := Lib.hid hrj2
              have hi0 : (0 : Int) ≤ (j : Int) := by omega
              have hi1 : (j : Int) < (M : Int) := by omega
              have HPL : Hid ((pcsOf ss j).length + 48 ≤ 140737488355328) := Lib.hid (by rw [pcsOf_len HS.out]; omega)
              clear hsj hrj hrj2 hj hdj
              go_wp2_with (refine wpList_more rfl (.tmp 64) (.tmp 69) rfl w8.heap.size v (pcsOf ss j) ((hv ss j).drop 16) rfl HV.out (some ⟨adj.block, adj.off + 16, none⟩) 48 (cj - 16) rfl HRJ.out HPL.out HF.out.size ?_; intro v2 w2 ho2 hg2 hat2; have H2 := Lib.hid (And.intro ho2 hg2); clear ho2 hg2 hat2)
              refine ⟨⟨j + 1, v2, rfl, by go_num, by omega, Lib.hid ?_, Lib.hid (HF.out.grown H2.out.2 (fun q hq => .inr (HV.out.lt q hq).1))⟩, by simp [intOf]; omega⟩
              rw [pcsOf_succ]
              exact H2.out.1
            · obtain rfl : j = xm := by omega
              have hpl : (pcsOf ss j).length = j * 48 := pcsOf_len HS.out j
              have hV := HV.out
              obtain ⟨A10, c10, rfl, hc10, _⟩ := own_slice hV
              rw [hpl] at hV hc10 ⊢
              have hrd := Rd.of_own hV
              obtain ⟨ad10, _, rfl, _, _⟩ := hrd.at_ (k := 0) (by omega)
              obtain ⟨hsc, hrc⟩ := slice_cut (c := c10) hrd hc10 4 (4 + k) (by omega) (by omega) (by omega) (by omega)
              have HKC : Hid (k ≤ c10 - 4) := Lib.hid (by omega)
              have e4 : 4 + k - 4 = k := by omega
              have e5 : ((4 + k : Nat) : Int) = 4 + (k : Int) := by omega
              rw [e4, e5] at hsc
              rw [e4] at hrc
              have hsc' : ∀ W, (Instr.slice 68 (.slice (some ad10) (j * 48) c10) (some (.int .i64 4)) (some (.int .i64 (4 + (k : Int)))) none).run Tryz.prog W = .ok (.slice (some ⟨ad10.block, ad10.off + 4, none⟩) k (c10 - 4)) W := hsc
              obtain ⟨b, hb⟩ : ∃ b, b = ((pcsOf ss j).drop 4).take k := ⟨_, rfl⟩
              rw [← hb] at hrc
              have hbl : b.length = k := hrc.len
              have HO3 := Lib.hid HO2.out
              rw [← hb] at HO3
              have HRC := Lib.hid (And.intro hrc hbl)
              have HAD : Hid (w.heap.size < ad10.block) := Lib.hid (by have := (own_blk_ge hV ad10 rfl).1; have := H8.out.2.2.2.lt; omega)
              have b7 := H8.out.1.keep HF.out (fun q => q)
              have c70 := b7.cell 0
              have c71 := b7.cell 1
              simp at c70 c71
              have hmx := HMX.out.1
              have HRH := Lib.hid (rhalves_any (cb := c10 - 4) hrc HKK.out.1 tc tn (by unfold mayT at hmx; simp at hmx; omega) (by unfold mayT at hmx; simp at hmx; omega))
              have HW9 := Lib.hid (And.intro b7 (And.intro (H8.out.2.2.1.trans HF.out (fun _ _ q => q)) (And.intro (H8.out.2.2.2.keep HF.out (fun q => q)) (HL8.out.new HF.out))))
              clear hpl hV hc10 hrd hsc hrc e4 e5 hb hbl b7 hmx hlt hj HV HL8 H8
              generalize wr = w9 at *
              go_wp2_with fail
              (with_reducible refine HRH.out.mono ?_)
              rintro e w10 ⟨v12, rfl, hl12, hf10⟩
              obtain ⟨g12, cap12, rfl, hcap12, hls12⟩ := hl12.lists (by rw [halvesL_len]; exact many_pos _)
              have hml : many b.length = j := by rw [HRC.out.2]; exact HKK.out.2
              rw [halvesL_len, hml] at hcap12 hls12 ⊢
              have HL12 := Lib.hid hls12
              have HML := Lib.hid hml
              have HW10 := Lib.hid (And.intro (HW9.out.1.keep hf10 (fun q => q)) (And.intro (HW9.out.2.1.trans hf10 (fun _ _ q => q)) (And.intro (HW9.out.2.2.1.keep hf10 (fun q => q)) (And.intro (HW9.out.2.2.2.new hf10) (HRC.out.1.keep hf10 (fun _ _ q => q))))))
              clear hl12 hf10 hls12 hml hsc' c70 c71 HRH HW9 HF
              go_wp2_with fail
              go_loopw [13] (fun x wr => ∃ i : Nat, x = .int .i64 i ∧ i ≤ j ∧ Hid (∀ q, q < i → halfL tc tn j b q = hv ss q) ∧ Hid (Fr (fun _ => False) w10 wr)) (fun x _ => j - (intOf x).toNat)
              case atStart => exact ⟨0, rfl, Nat.zero_le _, Lib.hid (fun q hq => by omega), Lib.hid (Fr.refl _ _)⟩
              case round =>
                obtain ⟨i, rfl, hi, HE, HFi⟩ := hrel
                by_cases hlt : i < j
                · obtain ⟨Aw, cw, hcw, hdw, hrw⟩ := HL12.out.at_ wr HFi.out i (halfL tc tn j b i) (by rw [halvesL_at (by rw [HML.out]; exact hlt), HML.out])
                  obtain ⟨Ap, cp, hcp, hdp, hrp⟩ := HW10.out.2.2.2.1.at_ wr HFi.out i (hv ss i) (partsL_at (by have := HM.out; omega))
                  have hl1 : (halfL tc tn j b i).length = 64 := halfL_len (by rw [HML.out]; exact hlt)
                  rw [hl1] at hcw hdw hrw
                  rw [hv_len HS.out i] at hcp hdp hrp
                  have HC : Hid (∀ w', Fr (fun _ => False) wr w' → w'.cell? ⟨g12, i, none⟩ = some (.slice Aw 64 cw) ∧ w'.cell? ⟨g, i, none⟩ = some (.slice Ap 64 cp) ∧
                      (convert 68 9 (.slice Aw 64 cw)).run Tryz.prog w' = .ok (.string ⟨(halfL tc tn j b i).toArray⟩) w' ∧ (convert 68 9 (.slice Ap 64 cp)).run Tryz.prog w' = .ok (.string ⟨(hv ss i).toArray⟩) w') := Lib.hid fun w' f =>
                    ⟨cell_new hcw f, cell_new hcp f, conv_string (P := Tryz.prog) 68 9 5 (hrw.keep f (fun _ _ q => q)) Tryz.underlying68 Tryz.underlying5 Tryz.underlying9,
                      conv_string (P := Tryz.prog) 68 9 5 (hrp.keep f (fun _ _ q => q)) Tryz.underlying68 Tryz.underlying5 Tryz.underlying9⟩
                  have HLT := Lib.hid hlt
                  have hi0 : (0 : Int) ≤ (i : Int) := by omega
                  have hi1 : (i : Int) < (j : Int) := by omega
                  have hi2 : (i : Int) < (M : Int) := by omega
                  clear hcw hdw hrw hcp hdp hrp hl1 hi hlt
                  go_wp2_with fail
                  refine wp_region_held_drew (S := fun w' => Fr (fun _ => False) wr w') (by kernel_rfl) ((Fr.refl _ _).drew) (fun hS0 => ?_)
                  refine anyH_take 0 83 (.slice (some ⟨g12, 0, none⟩) j cap12) rfl rfl (by kernel_rfl) (by kernel_rfl) (by kernel_rfl) (fun _ _ _ h => h) (.inl ⟨by rfl, fun w'' hS => by go_simp⟩) hS0 ?_
                  (simp only [List.setIfInBounds_toArray, List.set_cons_zero, List.set_cons_succ])
                  refine anyH_take 1 84 (.int .i64 (i : Nat)) rfl rfl (by kernel_rfl) (by kernel_rfl) (by kernel_rfl) (fun _ _ _ h => h) (.inl ⟨by rfl, fun w'' hS => by go_simp⟩) hS0 ?_
                  (simp only [List.setIfInBounds_toArray, List.set_cons_zero, List.set_cons_succ])
                  refine anyH_take 2 85 (.pointer (some ⟨g12, i, none⟩)) rfl rfl (by kernel_rfl) (by kernel_rfl) (by kernel_rfl) (fun _ _ _ h => h) (.inl ⟨by rfl, fun w'' hS => by go_simp⟩) hS0 ?_
                  (simp only [List.setIfInBounds_toArray, List.set_cons_zero, List.set_cons_succ])
                  refine anyH_take 3 86 (.slice Aw 64 cw) rfl rfl (by kernel_rfl) (by kernel_rfl) (by kernel_rfl) (fun _ _ _ h => h) (.inl ⟨by rfl, fun w'' hS => by have q0 := (HC.out w'' hS).1; go_simp⟩) hS0 ?_
                  (simp only [List.setIfInBounds_toArray, List.set_cons_zero, List.set_cons_succ])
                  refine anyH_take 4 87 (.string ⟨(halfL tc tn j b i).toArray⟩) rfl rfl (by kernel_rfl) (by kernel_rfl) (by kernel_rfl) (fun _ _ _ h => h) (.inl ⟨by rfl, fun w'' hS => by have q0 := (HC.out w'' hS).2.2.1; go_simp⟩) hS0 ?_
                  (simp only [List.setIfInBounds_toArray, List.set_cons_zero, List.set_cons_succ])
                  refine anyH_take 5 88 (.slice (some ⟨g, 0, none⟩) M cap) rfl rfl (by kernel_rfl) (by kernel_rfl) (by kernel_rfl) (fun _ _ _ h => h) (.inl ⟨by rfl, fun w'' hS => by go_simp⟩) hS0 ?_
                  (simp only [List.setIfInBounds_toArray, List.set_cons_zero, List.set_cons_succ])
                  refine anyH_take 6 89 (.int .i64 (i : Nat)) rfl rfl (by kernel_rfl) (by kernel_rfl) (by kernel_rfl) (fun _ _ _ h => h) (.inl ⟨by rfl, fun w'' hS => by go_simp⟩) hS0 ?_
                  (simp only [List.setIfInBounds_toArray, List.set_cons_zero, List.set_cons_succ])
                  refine anyH_take 7 90 (.pointer (some ⟨g, i, none⟩)) rfl rfl (by kernel_rfl) (by kernel_rfl) (by kernel_rfl) (fun _ _ _ h => h) (.inl ⟨by rfl, fun w'' hS => by go_simp⟩) hS0 ?_
                  (simp only [List.setIfInBounds_toArray, List.set_cons_zero, List.set_cons_succ])
                  refine anyH_take 8 91 (.slice Ap 64 cp) rfl rfl (by kernel_rfl) (by kernel_rfl) (by kernel_rfl) (fun _ _ _ h => h) (.inl ⟨by rfl, fun w'' hS => by have q0 := (HC.out w'' hS).2.1; go_simp⟩) hS0 ?_
                  (simp only [List.setIfInBounds_toArray, List.set_cons_zero, List.set_cons_succ])
                  refine anyH_take 9 92 (.string ⟨(hv ss i).toArray⟩) rfl rfl (by kernel_rfl) (by kernel_rfl) (by kernel_rfl) (fun _ _ _ h => h) (.inl ⟨by rfl, fun w'' hS => by have q0 := (HC.out w'' hS).2.2.2; go_simp⟩) hS0 ?_
                  (simp only [List.setIfInBounds_toArray, List.set_cons_zero, List.set_cons_succ])
                  refine anyH_take 10 93 (.bool (!decide (halfL tc tn j b i = hv ss i))) rfl rfl (by kernel_rfl) (by kernel_rfl) (by kernel_rfl) (fun _ _ _ h => h) (.inl ⟨by rfl, fun w'' hS => by have q0 := str_neq (halfL tc tn j b i) (hv ss i) w''; (go_simp; rw [Bool.eq_iff_iff]; simp)⟩) hS0 ?_
                  (simp only [List.setIfInBounds_toArray, List.set_cons_zero, List.set_cons_succ])
                  refine wpAnyH_done (by kernel_rfl) ?_ _
                  by_cases heq : halfL tc tn j b i = hv ss i
                  · have hd1 : (!decide (halfL tc tn j b i = hv ss i)) = false := by simp [heq]
                    rw [hd1]
                    have HEQ := Lib.hid heq
                    clear hd1 heq HC
                    have HF2 := Lib.hid (HFi.out.trans hS0 (fun _ _ q => q))
                    clear hS0
                    go_wp2_with fail
                    refine ⟨⟨i + 1, by go_num, HLT.out, Lib.hid (fun q hq => ?_), HF2⟩, by have := HLT.out; simp [intOf]; omega⟩
                    rcases Nat.lt_or_ge q i with h | h
                    · exact HE.out q h
                    · have e : q = i := by omega
                      rw [e]
                      exact HEQ.out
                  · have hd1 : (!decide (halfL tc tn j b i = hv ss i)) = true := by simp [heq]
                    rw [hd1]
                    have HN : Hid (o = none) := Lib.hid (by
                      rw [HO3.out, if_pos HKK.out, if_neg]
                      intro q
                      exact heq (of_decide_eq_true (List.all_eq_true.1 q i (List.mem_range.2 HLT.out))))
                    clear hd1 heq HC
                    have HF2 := Lib.hid (And.intro (HW10.out.2.1.trans (HFi.out.trans hS0 (fun _ _ q => q)) (fun _ _ q => q)) (HW10.out.2.2.1.keep (HFi.out.trans hS0 (fun _ _ q => q)) (fun q => q)))
                    clear hS0
                    generalize wr.drew = wz at *
                    have g0 := HF2.out.2.cell 0
                    have g1 := HF2.out.2.cell 1
                    have k0 := HF2.out.2.frozen 0
                    have k1 := HF2.out.2.frozen 1
                    simp at g0 g1
                    go_wp2_with fail
                    refine bodyPost_ret (results_rjoin (g2 := w.heap.size) rfl rfl rfl rfl ((HF2.out.2.set_ 0 (.int .u64 0)).set_ 1 (.int .i64 0))) rfl ?_
                    rw [HN.out]
                    exact ⟨fun _ => rfl, (fun b hb => by cases hb), (HF2.out.1.setCell (p := ⟨w.heap.size, 0, none⟩) (.inr (Nat.le_refl _)) _).setCell (p := ⟨w.heap.size, 1, none⟩) (.inr (Nat.le_refl _)) _⟩
                · obtain rfl : i = j := by omega
                  have HY : Hid (o = some b) := Lib.hid (by
                    rw [HO3.out, if_pos HKK.out, if_pos]
                    rw [List.all_eq_true]
                    intro q hq
                    exact decide_eq_true (HE.out q (List.mem_range.1 hq)))
                  have b7 := HW10.out.1.keep HFi.out (fun q => q)
                  have b2 := HW10.out.2.2.1.keep HFi.out (fun q => q)
                  have c70 := b7.cell 0
                  have c71 := b7.cell 1
                  have g0 := b2.cell 0
                  have g1 := b2.cell 1
                  have k0 := b2.frozen 0
                  have k1 := b2.frozen 1
                  simp at c70 c71 g0 g1
                  have hne7 : g7 ≠ w.heap.size := by omega
                  have hlt7 := b7.lt
                  have HC7 : Hid (∀ W, Fr (fun q => q = w.heap.size) wr W → W.cell? ⟨g7, 0, none⟩ = some (.int .u64 (tc : Nat)) ∧ W.cell? ⟨g7, 1, none⟩ = some (.int .i64 (tn : Nat))) := Lib.hid fun W f => ⟨(f.cell hlt7 hne7).trans c70, (f.cell hlt7 hne7).trans c71⟩
                  have HW11 := Lib.hid (And.intro b2 (And.intro (HW10.out.2.1.trans HFi.out (fun _ _ q => q)) (HW10.out.2.2.2.2.keep HFi.out (fun _ _ q => q))))
                  clear b7 b2 hlt hi HE HW10 HFi hne7 hlt7 c70 c71 g0 g1 k0 k1
                  generalize wr = w11 at *
                  go_wp2_with fail
                  refine wp_region_held_drew (S := fun w' => Fr (fun q => q = w.heap.size) w11 w' ∧ ∃ x y, Blk w' w.heap.size 91 #[x, y]) (by kernel_rfl) (⟨(Fr.refl _ _).drew, _, _, HW11.out.1.keep (F := fun _ => False) ((Fr.refl _ _).drew) (fun q => q)⟩) (fun hS0 => ?_)
                  refine anyH_take 0 95 (.agg #[.int .u64 (tc : Nat), .int .i64 (tn : Nat)]) rfl rfl (by kernel_rfl) (by kernel_rfl) (by kernel_rfl) (fun _ _ _ h => h) (.inl ⟨by rfl, fun w'' hS => by have q0 := HC7.out w'' hS.1; go_simp⟩) hS0 ?_
                  (simp only [List.setIfInBounds_toArray, List.set_cons_zero, List.set_cons_succ])
                  refine anyH_take 1 96 (.slice (some ⟨ad10.block, ad10.off + 4, none⟩) k (c10 - 4)) rfl rfl (by kernel_rfl) (by kernel_rfl) (by kernel_rfl) (fun _ _ _ h => h) (.inl ⟨by rfl, fun w'' hS => by go_simp⟩) hS0 ?_
                  (simp only [List.setIfInBounds_toArray, List.set_cons_zero, List.set_cons_succ])
                  refine anyH_take 2 97 (.int .i64 (k : Nat)) rfl rfl (by kernel_rfl) (by kernel_rfl) (by kernel_rfl) (fun _ _ _ h => h) (.inl ⟨by rfl, fun w'' hS => by go_simp⟩) hS0 ?_
                  (simp only [List.setIfInBounds_toArray, List.set_cons_zero, List.set_cons_succ])
                  refine anyH_one 3 98 (.int .i64 (needN (k : Nat) : Nat)) (by kernel_rfl) (tame_call 98 rfl rfl (by rfl) (fun w'' hS => by go_simp) (fun w'' hS => ((rneed_any w'' (k : Nat)).mono fun e w3 he => ⟨he.1, he.2 ▸ hS⟩))) hS0 (fun wz hS0 => ?_)
                  (simp only [List.setIfInBounds_toArray, List.set_cons_zero, List.set_cons_succ])
                  obtain ⟨hfz, x, y, hbz⟩ := hS0
                  have z0 := hbz.cell 0
                  have z1 := hbz.cell 1
                  have z2 := hbz.frozen 0
                  have z3 := hbz.frozen 1
                  simp at z0 z1
                  have hbs := (hbz.set_ 0 (.int .u64 (tc : Nat))).set_ 1 (.int .i64 (tn : Nat))
                  have hfs : Fr (fun q => q = w.heap.size) w11 ((wz.setCell ⟨w.heap.size, 0, none⟩ (.int .u64 (tc : Nat))).setCell ⟨w.heap.size, 1, none⟩ (.int .i64 (tn : Nat))) := (hfz.setCell (p := ⟨w.heap.size, 0, none⟩) (.inl rfl) _).setCell (p := ⟨w.heap.size, 1, none⟩) (.inl rfl) _
                  refine anyH_skip 4 ((wz.setCell ⟨w.heap.size, 0, none⟩ (.int .u64 (tc : Nat))).setCell ⟨w.heap.size, 1, none⟩ (.int .i64 (tn : Nat))) (by kernel_rfl) rfl rfl (by rfl) (by go_simp) ⟨hfs, _, _, hbs⟩ ?_
                  have hS0 : Fr (fun q => q = w.heap.size) w11 ((wz.setCell ⟨w.heap.size, 0, none⟩ (.int .u64 (tc : Nat))).setCell ⟨w.heap.size, 1, none⟩ (.int .i64 (tn : Nat))) ∧ ∃ x y, Blk ((wz.setCell ⟨w.heap.size, 0, none⟩ (.int .u64 (tc : Nat))).setCell ⟨w.heap.size, 1, none⟩ (.int .i64 (tn : Nat))) w.heap.size 91 #[x, y] := ⟨hfs, _, _, hbs⟩
                  refine anyH_take 5 3 (.slice (some ⟨ad10.block, ad10.off + 4, none⟩) k (c10 - 4)) rfl rfl (by kernel_rfl) (by kernel_rfl) (by kernel_rfl) (fun _ _ _ h => h) (.inl ⟨by rfl, fun w'' hS => by go_simp⟩) hS0 ?_
                  (simp only [List.setIfInBounds_toArray, List.set_cons_zero, List.set_cons_succ])
                  refine anyH_take 6 4 (.int .i64 (needN (k : Nat) : Nat)) rfl rfl (by kernel_rfl) (by kernel_rfl) (by kernel_rfl) (fun _ _ _ h => h) (.inl ⟨by rfl, fun w'' hS => by go_simp⟩) hS0 ?_
                  (simp only [List.setIfInBounds_toArray, List.set_cons_zero, List.set_cons_succ])
                  refine anyH_take 7 5 (.bool true) rfl rfl (by kernel_rfl) (by kernel_rfl) (by kernel_rfl) (fun _ _ _ h => h) (.inl ⟨by rfl, fun w'' hS => by go_simp⟩) hS0 ?_
                  (simp only [List.setIfInBounds_toArray, List.set_cons_zero, List.set_cons_succ])
                  refine wpAnyH_done (by kernel_rfl) ?_ _
                  have HZ := Lib.hid (And.intro hbs hfs)
                  clear hS0 hbs hfs hbz hfz z0 z1 z2 z3
                  generalize (wz.setCell ⟨w.heap.size, 0, none⟩ (.int .u64 (tc : Nat))).setCell ⟨w.heap.size, 1, none⟩ (.int .i64 (tn : Nat)) = wy at *
                  go_wp2_with fail
                  refine bodyPost_ret (results_rjoin (g2 := w.heap.size) rfl rfl rfl rfl HZ.out.1) rfl ?_
                  rw [HY.out, HTA2.out]
                  refine ⟨(fun q => by cases q), (fun b' hb' => ?_), ?_⟩
                  · injection hb' with hb'
                    subst hb'
                    have hbl := HRC.out.2
                    refine ⟨some ⟨ad10.block, ad10.off + 4, none⟩, c10 - 4, by rw [hbl]; rfl, ?_, by rw [hbl]; exact HKC.out⟩
                    rw [hbl]
                    exact HW11.out.2.2.keep HZ.out.2 (fun ad e q => by injection e with e; subst e; have := HAD.out; simp at q; omega)
                  · exact HW11.out.2.1.trans HZ.out.2 (fun q hq e => by omega)
end Go.Proofs.YtjdbgojnpnlblaaGreat

