/- couponref02: Torn. -/
import Derived.Test.YtbnegiiombnnaaaRpa
namespace Go.Proofs.Ytbnegiiombnnaaa
open Go.RowKit

theorem fold_set_at : ∀ (l : List Value) (o k : Nat) (acc : Array Value), o + k + l.length ≤ acc.size → ((l.zipIdx k).foldl (fun cs (x : Value × Nat) => cs.setIfInBounds (o + x.2) x.1) acc) = (acc.toList.take (o + k) ++ (l ++ acc.toList.drop (o + k + l.length))).toArray
  | [], o, k, acc, _ => by simp
  | x :: l, o, k, acc, h => by
    simp only [List.length_cons] at h
    rw [List.zipIdx_cons, List.foldl_cons, fold_set_at l o (k + 1) _ (by simp; omega)]
    simp only [Array.toList_setIfInBounds]
    have h1 : o + k < acc.toList.length := by simp; omega
    have e0 : o + (k + 1) = o + k + 1 := by omega
    rw [e0]
    have e1 : (acc.toList.set (o + k) x).take (o + k + 1) = acc.toList.take (o + k) ++ [x] := by
      rw [List.take_set, List.take_succ_eq_append_getElem h1]
      have h4 : (acc.toList.take (o + k)).length = o + k := by rw [List.length_take]; omega
      rw [List.set_append_right _ _ (by omega), h4, Nat.sub_self]
      rfl
    have e2 : (acc.toList.set (o + k) x).drop (o + k + 1 + l.length) = acc.toList.drop (o + k + (l.length + 1)) := by
      rw [List.drop_set_of_lt (by omega)]
      congr 1
      omega
    rw [e1, e2]
    simp
theorem fill_two {cs ds base : List Value} (K : Nat) (hc : cs.length = K) (hd : ds.length = K) (hb : base.length = 2 * K) : Instr.fill (fun i => some (i * K, K)) base.toArray [(0, .agg cs.toArray), (1, .agg ds.toArray)] = some (cs ++ ds).toArray := by
  have h1 := fold_set cs 0 base.toArray (by simp; omega)
  have h2 := fold_set_at ds K 0 (cs ++ base.drop K).toArray (by simp; omega)
  simp only [Instr.fill, Value.cells, Nat.zero_mul, Nat.one_mul]
  rw [if_neg (by simp; omega)]
  rw [← Array.foldl_toList, Array.toList_zipIdx, List.toList_toArray, h1]
  simp only [List.toList_toArray, List.take_zero, List.nil_append, Nat.zero_add, hc]
  rw [if_neg (by simp; omega)]
  rw [← Array.foldl_toList, Array.toList_zipIdx, List.toList_toArray, h2]
  simp only [List.toList_toArray, Nat.add_zero]
  have e1 : (cs ++ base.drop K).take K = cs := List.take_left' hc
  have e2 : (cs ++ base.drop K).drop (K + ds.length) = [] := List.drop_eq_nil_of_le (by simp; omega)
  rw [e1, e2, List.append_nil]
theorem slice_of_two {a b : List UInt8} (ha : a.length = 128) (hb : b.length = 128) (w : World) : (Instr.buildSlice 27 2 #[(0, av a), (1, av b)]).run Try.prog w = .ok (.slice (some ⟨w.heap.size, 0, none⟩) 2 2) (w.alloc (.cells (cellsB (a ++ b)).toArray 37)) := by
  obtain ⟨i0, hi, hz0, hz1, hz2⟩ := info_parts infoSec
  refine run_buildSlice w 27 37 2 _ _ i0 _ Try.underlying27 hi hz0 (by rw [hz1]; omega) (by rw [hz1]; omega) ?_
  rw [hz1]
  have hq : ((Array.range (2 * 128)).map ((av (nought 128)).cells[· % (av (nought 128)).cells.size]!)) = (cellsB (nought 256)).toArray := made_bytes (av (nought 128)).cells 128 (2 * 128) rfl (by omega)
  rw [hq, cellsB_app]
  exact fill_two 128 (by rw [cellsB_len, ha]) (by rw [cellsB_len, hb]) (by rw [cellsB_len, nought_len])
section
variable {P : Program} {ops : Array Oper} {Q : Exit → Act → World → Prop} {md : Region.Mode} {S : World → Prop}
theorem anyH_value (i : Nat) (d : Tmp) (v : Value) (w' : World) {o : Oper} {fuel : Nat} {listed : Array Bool} {T : Array Value} {ds : List Deferred} {w : World} (hr : Region.ready md ops listed = [i]) (ho : ops[i]? = some o) (hd : o.dst = some d)
    (hw : Region.wanted o (yielded ops T) = true) (hrun : (execOp (Act.eval { tmps := T, defers := ds }) o).run P w = .ok (.value v) w') (hS : S w')
    (h : wpAnyH P md ops Q S fuel (listed.setIfInBounds i true) { tmps := T.setIfInBounds d v, defers := ds } w') : wpAnyH P md ops Q S (fuel + 1) listed { tmps := T, defers := ds } w := by
  refine wpAnyH_all hr (by simp) fun j hj => ?_
  obtain rfl := List.mem_singleton.1 hj
  exact wpOp_value d v ho hd hw hrun ⟨hS, h⟩
theorem anyH_skip (i : Nat) (w' : World) {o : Oper} {fuel : Nat} {listed : Array Bool} {T : Array Value} {ds : List Deferred} {w : World} (hr : Region.ready md ops listed = [i]) (ho : ops[i]? = some o) (hd : o.dst = none)
    (hw : Region.wanted o (yielded ops T) = true) (hrun : (execOp (Act.eval { tmps := T, defers := ds }) o).run P w = .ok .skip w') (hS : S w')
    (h : wpAnyH P md ops Q S fuel (listed.setIfInBounds i true) { tmps := T, defers := ds } w') : wpAnyH P md ops Q S (fuel + 1) listed { tmps := T, defers := ds } w := by
  refine wpAnyH_all hr (by simp) fun j hj => ?_
  obtain rfl := List.mem_singleton.1 hj
  exact wpOp_skip ho hd hw hrun ⟨hS, h⟩
theorem anyH_enter (i : Nat) (d : Tmp) {o : Oper} {fuel : Nat} {listed : Array Bool} {T : Array Value} {ds : List Deferred} {w : World} {f : FuncId} {args : Array Value} (hr : Region.ready md ops listed = [i]) (ho : ops[i]? = some o) (hd : o.dst = some d)
    (hw : Region.wanted o (yielded ops T) = true) (hrun : (execOp (Act.eval { tmps := T, defers := ds }) o).run P w = .ok (.enter f args) w)
    (h : Calls P f args w fun e w' => ∃ v, e = .returned v ∧ S w' ∧ wpAnyH P md ops Q S fuel (listed.setIfInBounds i true) { tmps := T.setIfInBounds d v, defers := ds } w') : wpAnyH P md ops Q S (fuel + 1) listed { tmps := T, defers := ds } w := by
  refine wpAnyH_all hr (by simp) fun j hj => ?_
  obtain rfl := List.mem_singleton.1 hj
  exact wpOp_call d ho hd hw hrun h
end
theorem run_load_mid {P : Program} {o : Oper} {a : Act} {w : World} (ty : TypeId) (x : Operand) (ho : o.op = .load ty x) (b f : Nat) (hx : a.eval x = .pointer (some ⟨b, f, none⟩)) (cs : List Value) (d : TypeDesc) (hr : w.rangeAt b f cs) (hu : P.underlying ty = some d) (hd : d.isRow = true) (hi : (P.info? ty).map (·.size) = some cs.length) :
    (execOp a.eval o).run P w = .ok (.value (.agg cs.toArray)) w := by
  unfold execOp
  simp only [ho, hx, Instr.loadAt, Instr.sureAddr, Sem.run_bind, Sem.run_pure, Result.andThen_ok, run_loadVar_mid w b f ty cs d hr hu hd hi]
section
variable {ops : Array Oper} {o : Oper} {a : Act} {Q : Exit → Act → World → Prop}
theorem wpList_build_two {rest : List Oper} {w : World} (hg : o.guard = none) (x y : Operand) (hop : o.op = .buildSlice 27 2 #[(0, x), (1, y)]) {l m : List UInt8} (hl : l.length = 128) (hm : m.length = 128) (hx : a.eval x = av l) (hy : a.eval y = av m)
    (hK : wpList Try.prog ops Q rest (a.put o.dst (.slice (some ⟨w.heap.size, 0, none⟩) 2 2)) (w.alloc (.cells (cellsB (l ++ m)).toArray 37))) : wpList Try.prog ops Q (o :: rest) a w := by
  refine wpList_plain hg fun K hK' => ?_
  have hr := slice_of_two hl hm w
  unfold Oper.wp execOp
  simp only [hop, hx, hy]
  simp [hr, hx, hy, Result.andThen]
  exact hK' _ _ hK
end
theorem els_old {w : World} {A : Option Addr} {k : Nat} {l : List UInt8} (hr : Rd w A k l) (hk : 0 < k) : ∀ ad, A = some ad → 0 ≤ ad.block ∧ (some w.heap.size : Option Nat) ≠ some ad.block := fun ad e => by
  obtain ⟨ad', e', hlt⟩ := hr.lt hk
  rw [e] at e'
  injection e' with e'
  subst e'
  refine ⟨Nat.zero_le _, fun q => ?_⟩
  injection q with q
  omega
theorem secs_two {a b : List UInt8} (ha : a.length = 128) (hb : b.length = 128) : secs (a ++ b) 2 = [a, b] := by
  unfold secs
  have e1 : (a ++ b).take 128 = a := List.take_left' ha
  have e2 : (a ++ b).drop 128 = b := List.drop_left' ha
  have e3 : b.take 128 = b := List.take_of_length_le (by omega)
  simp [List.range_succ, e1, e2, e3]
theorem parts_two {a b : List UInt8} (ha : a.length = 128) (hb : b.length = 128) : partsL [a, b] = [a.take 64, a.drop 64, b.take 64, b.drop 64] := by
  have h0 := hv_at (ss := [a, b]) (k := 0) rfl ha
  have h1 := hv_at (ss := [a, b]) (k := 1) rfl hb
  simp only [Nat.mul_zero, Nat.zero_add, Nat.mul_one] at h0 h1
  have e : (2 + 1) = 3 := rfl
  rw [e] at h1
  unfold partsL
  simp only [List.length_cons, List.length_nil, Nat.zero_add, Nat.reduceAdd, Nat.reduceMul]
  simp [List.range_succ, h0.1, h0.2, h1.1, h1.2]

set_option maxRecDepth 100000 in
set_option maxHeartbeats 4000000 in
theorem rtorn_any (w : World) (a b : List UInt8) (ha : a.length = 128) (hb : b.length = 128) : Calls Try.prog 19 #[av a, av b] w fun e w' => e = .returned (av (tornOf a b)) ∧ Fr (fun _ => False) w w' := by
  go_enter Try.func19, Try.ntmps19
  have HAB := Lib.hid (And.intro ha hb)
  clear ha hb
  obtain ⟨W, hW, k0, k1, k2, hsz, hfr⟩ := alloc3 w (cellsB a).toArray (cellsB b).toArray (cellsB (nought 128)).toArray 37 37 37
  have HW := Lib.hid hW
  have HK := Lib.hid (And.intro k0 (And.intro k1 (And.intro k2 (And.intro hsz hfr))))
  have r0 : W.rangeAt w.heap.size 0 (cellsB a) := by
    have := k0.range 0 128
    rw [List.drop_zero, List.take_of_length_le (Nat.le_of_eq HAB.out.1)] at this
    exact this
  have r1 : W.rangeAt (w.heap.size + 1) 0 (cellsB b) := by
    have := k1.range 0 128
    rw [List.drop_zero, List.take_of_length_le (Nat.le_of_eq HAB.out.2)] at this
    exact this
  have e1 : (w.alloc (.cells (cellsB a).toArray 37)).heap.size = w.heap.size + 1 := by simp
  rw [← e1] at r1
  rw [hW] at r0 r1
  have HR := Lib.hid (And.intro r0 r1)
  clear k0 k1 k2 hsz hfr r0 r1 hW
  go_wp2_with (first
    | (refine wpList_zero rfl 37 rfl zeroSector ?_)
    | (refine wpList_put rfl 37 _ rfl _ rfl ?_)
    | (refine wpList_load_mid rfl 37 (.tmp 2) rfl w.heap.size 0 rfl (cellsB a) _ HR.out.1 Try.underlying37 rfl (by rw [infoSector, cellsB_len, HAB.out.1]) ?_)
    | (refine wpList_load_mid rfl 37 (.tmp 3) rfl _ 0 rfl (cellsB b) _ HR.out.2 Try.underlying37 rfl (by rw [infoSector, cellsB_len, HAB.out.2]) ?_)
    | (refine wpList_build_two rfl (.tmp 6) (.tmp 7) rfl HAB.out.1 HAB.out.2 rfl rfl ?_))
  rw [← HW.out]
  have hbA := Blk.new W 37 (cellsB (a ++ b)).toArray
  have hsv : SecV (W.alloc (.cells (cellsB (a ++ b)).toArray 37)) (.slice (some ⟨W.heap.size, 0, none⟩) 2 2) [a, b] := by
    rw [← secs_two HAB.out.1 HAB.out.2]
    exact secV_own1 (base := 0) (own_of_blk hbA (Nat.zero_le _) (by rw [cellsB_len, List.length_append, HAB.out.1, HAB.out.2]) (by simp [maxLen])) (by rw [List.length_append, HAB.out.1, HAB.out.2])
  have hWs : W.heap.size = w.heap.size + 1 + 1 + 1 := HK.out.2.2.2.1
  have hps := rparts_any hsv (by simp)
  rw [hWs] at hps
  have HP := Lib.hid hps
  clear hps hWs
  have hfA : Fr (fun _ => False) W (W.alloc (.cells (cellsB (a ++ b)).toArray 37)) := (Fr.refl _ W).alloc _
  have hszA : (W.alloc (.cells (cellsB (a ++ b)).toArray 37)).heap.size = w.heap.size + 4 := by have := HK.out.2.2.2.1; simp; omega
  have HA := Lib.hid (And.intro hfA hszA)
  clear hbA hsv hfA hszA HR
  (with_reducible refine HP.out.mono ?_)
  rintro e w2 ⟨v5, rfl, hl5, hf5⟩
  rw [parts_two HAB.out.1 HAB.out.2, HA.out.2] at hl5
  obtain ⟨g, cap, rfl, hg1, hg2, hcap, hcm, hat⟩ := hl5.at_ (by simp)
  obtain ⟨A0, c0, hc0, hd0, hr0, hn0⟩ := hat 0 _ rfl
  obtain ⟨A3, c3, hc3, hd3, hr3, hn3⟩ := hat 3 _ rfl
  have l0 : (a.take 64).length = 64 := by rw [List.length_take, HAB.out.1]; rfl
  have l3 : (b.drop 64).length = 64 := by rw [List.length_drop, HAB.out.2]
  rw [l0] at hc0 hd0 hr0
  rw [l3] at hc3 hd3 hr3
  have HC : Hid (∀ w', Fr (fun j => j = w.heap.size + 2) w2 w' → w'.cell? ⟨g, 0, none⟩ = some (.slice A0 64 c0) ∧ w'.cell? ⟨g, 3, none⟩ = some (.slice A3 64 c3)) := Lib.hid fun w' f => ⟨(f.cell hg2 (by simp; omega)).trans hc0, (f.cell hg2 (by simp; omega)).trans hc3⟩
  have HD := Lib.hid (And.intro (And.intro hd0 (And.intro hr0 hn0)) (And.intro (And.intro hd3 (And.intro hr3 hn3)) (And.intro l0 l3)))
  have hf2 := HA.out.1.trans hf5 (fun _ _ q => q)
  have HF := Lib.hid (And.intro (HK.out.2.2.1.keep hf2 (fun q => q)) (And.intro (HK.out.2.2.2.2.trans hf2 (fun _ _ q => q)) hf2))
  clear hl5 hg1 hg2 hcap hcm hat hc0 hd0 hr0 hn0 hc3 hd3 hr3 hn3 l0 l3 hf2 hf5 HP HA
  have e4 : [a.take 64, a.drop 64, b.take 64, b.drop 64].length = 4 := rfl
  rw [e4]
  clear e4
  go_wp2_with fail
  refine wp_region_held_drew (S := fun w' => Fr (fun j => j = w.heap.size + 2) w2 w') (by kernel_rfl) ((Fr.refl _ _).drew) (fun hS0 => ?_)
  refine anyH_take 0 10 (.slice (some ⟨g, 0, none⟩) 4 cap) rfl rfl (by kernel_rfl) (by kernel_rfl) (by kernel_rfl) (fun _ _ _ h => h) (.inl ⟨by rfl, fun w'' hS => by go_simp⟩) hS0 ?_
  (simp only [List.setIfInBounds_toArray, List.set_cons_zero, List.set_cons_succ])
  refine anyH_take 1 11 (.pointer (some ⟨g, 0, none⟩)) rfl rfl (by kernel_rfl) (by kernel_rfl) (by kernel_rfl) (fun _ _ _ h => h) (.inl ⟨by rfl, fun w'' hS => by go_simp⟩) hS0 ?_
  (simp only [List.setIfInBounds_toArray, List.set_cons_zero, List.set_cons_succ])
  refine anyH_take 2 12 (.slice A0 64 c0) rfl rfl (by kernel_rfl) (by kernel_rfl) (by kernel_rfl) (fun _ _ _ h => h) (.inl ⟨by rfl, fun w'' hS => by have q0 := (HC.out w'' hS).1; go_simp⟩) hS0 ?_
  (simp only [List.setIfInBounds_toArray, List.set_cons_zero, List.set_cons_succ])
  refine anyH_take 3 13 (.slice (some ⟨g, 0, none⟩) 4 cap) rfl rfl (by kernel_rfl) (by kernel_rfl) (by kernel_rfl) (fun _ _ _ h => h) (.inl ⟨by rfl, fun w'' hS => by go_simp⟩) hS0 ?_
  (simp only [List.setIfInBounds_toArray, List.set_cons_zero, List.set_cons_succ])
  refine anyH_take 4 14 (.pointer (some ⟨g, 3, none⟩)) rfl rfl (by kernel_rfl) (by kernel_rfl) (by kernel_rfl) (fun _ _ _ h => h) (.inl ⟨by rfl, fun w'' hS => by go_simp⟩) hS0 ?_
  (simp only [List.setIfInBounds_toArray, List.set_cons_zero, List.set_cons_succ])
  refine anyH_take 5 15 (.slice A3 64 c3) rfl rfl (by kernel_rfl) (by kernel_rfl) (by kernel_rfl) (fun _ _ _ h => h) (.inl ⟨by rfl, fun w'' hS => by have q0 := (HC.out w'' hS).2; go_simp⟩) hS0 ?_
  (simp only [List.setIfInBounds_toArray, List.set_cons_zero, List.set_cons_succ])
  have hbB : Blk (w2.drew.alloc (.cells #[.slice A0 64 c0, .slice A3 64 c3] 25)) w2.heap.size 25 #[.slice A0 64 c0, .slice A3 64 c3] := Blk.new w2.drew _ _
  have hfB : Fr (fun _ => False) w2 (w2.drew.alloc (.cells #[.slice A0 64 c0, .slice A3 64 c3] 25)) := ((Fr.refl _ w2).drew).alloc _
  have hlB : Lst (w2.drew.alloc (.cells #[.slice A0 64 c0, .slice A3 64 c3] 25)) 0 (.slice (some ⟨w2.heap.size, 0, none⟩) 2 2) [a.take 64, b.drop 64] :=
    ⟨[.slice A0 64 c0, .slice A3 64 c3], own_of_blk hbB (Nat.zero_le _) (by rfl) (by simp [maxLen]),
      Els.two (Els.one HD.out.2.2.1 HD.out.1.1 (HD.out.1.2.1.keep hfB (fun _ _ q => q)) HD.out.1.2.2 (els_old HD.out.1.2.1 (by omega)))
        (Els.one HD.out.2.2.2 HD.out.2.1.1 (HD.out.2.1.2.1.keep hfB (fun _ _ q => q)) HD.out.2.1.2.2 (els_old HD.out.2.1.2.1 (by omega)))⟩
  have h64 : All64 [a.take 64, b.drop 64] := fun l hl => by
    simp at hl
    rcases hl with rfl | rfl
    · exact HD.out.2.2.1
    · exact HD.out.2.2.2
  have HS := Lib.hid (rsectors_any hlB h64 (by simp))
  have HFB := Lib.hid hfB
  clear hbB hfB hlB h64
  refine anyH_value 6 16 (.slice (some ⟨w2.heap.size, 0, none⟩) 2 2) (w2.drew.alloc (.cells #[.slice A0 64 c0, .slice A3 64 c3] 25)) (by kernel_rfl) rfl rfl (by rfl) (by go_simp) (HFB.out.mono (fun _ _ q => q.elim)) ?_
  (simp only [List.setIfInBounds_toArray, List.set_cons_zero, List.set_cons_succ])
  refine anyH_enter 7 17 (by kernel_rfl) rfl rfl (by rfl) (by go_simp) (HS.out.mono ?_)
  rintro e w3 ⟨v3, rfl, ho3, hf3⟩
  have hsec : (sectorsL [a.take 64, b.drop 64]).flatten = tornOf a b := by
    rw [sectorsL_two]
    simp [sectorsL, tornOf]
  have hlt : (tornOf a b).length = 128 := by unfold tornOf; rw [List.length_append, HD.out.2.2.1, HD.out.2.2.2]
  rw [hsec] at ho3
  have hone : ([a.take 64, b.drop 64].length + 1) / 2 = 1 := by simp
  rw [hone] at ho3
  rcases ho3.2 with ⟨_, q⟩ | ⟨g3, cap3, cur3, rfl, hg3, hh3, hn3, hm3, hz3, ht3⟩
  · omega
  have hra : w3.rangeAt g3 0 (cellsB (tornOf a b)) := fun j u hu => by
    have := ho3.cells (g := g3) rfl j u hu
    rw [Addr.add_lit] at this
    exact this
  have hfw := HFB.out.trans hf3 (fun _ _ q => q)
  have HW3 := Lib.hid (And.intro hra (And.intro hfw (And.intro hlt (HF.out.1.keep hfw (fun q => q)))))
  clear hra hfw hlt ho3 hf3 hsec hone hg3 hh3 hm3 hz3 ht3 HS
  refine ⟨_, rfl, HW3.out.2.1.mono (fun _ _ q => q.elim), ?_⟩
  (simp only [List.setIfInBounds_toArray, List.set_cons_zero, List.set_cons_succ])
  refine anyH_value 8 18 (.pointer (some ⟨g3, 0, none⟩)) w3 (by kernel_rfl) rfl rfl (by rfl) (by go_simp) (HW3.out.2.1.mono (fun _ _ q => q.elim)) ?_
  (simp only [List.setIfInBounds_toArray, List.set_cons_zero, List.set_cons_succ])
  refine anyH_value 9 19 (.agg (cellsB (tornOf a b)).toArray) w3 (by kernel_rfl) rfl rfl (by rfl) (run_load_mid 37 (.tmp 18) rfl g3 0 rfl (cellsB (tornOf a b)) _ HW3.out.1 Try.underlying37 rfl (by rw [infoSector, cellsB_len, HW3.out.2.2.1])) (HW3.out.2.1.mono (fun _ _ q => q.elim)) ?_
  (simp only [List.setIfInBounds_toArray, List.set_cons_zero, List.set_cons_succ])
  have hst : Fr (fun j => j = w.heap.size + 2) w3 (w3.setCells (w.heap.size + 2) 0 (cellsB (tornOf a b))) := Fr.setCells (F := fun j => j = w.heap.size + 2) (.inl rfl) (Fr.refl _ _)
  refine anyH_skip 10 (w3.setCells (w.heap.size + 2) 0 (cellsB (tornOf a b))) (by kernel_rfl) rfl rfl (by rfl) (run_store_mid 37 (.tmp 4) (.tmp 19) rfl (w.heap.size + 2) 0 (cellsB (tornOf a b)).toArray rfl rfl (HW3.out.2.2.2.there (by simp [cellsB_len, nought_len, HW3.out.2.2.1])) (by rw [infoSector]; simp [cellsB_len, HW3.out.2.2.1]) (all_oneCell_toArray (cellsB_one _))) ((HW3.out.2.1.mono (fun _ _ q => q.elim)).trans hst (fun _ _ q => q)) ?_
  refine wpAnyH_done (by kernel_rfl) ?_ _
  have hov := HW3.out.2.2.2.over (o := 0) (m := tornOf a b) (by rw [HW3.out.2.2.1, nought_len]; omega)
  rw [patch_all (by rw [HW3.out.2.2.1, nought_len])] at hov
  have hfz := Fr.setCells (F := fun _ => False) (b := w.heap.size + 2) (vs := cellsB (tornOf a b)) (o := 0) (.inr (by omega : w.heap.size ≤ w.heap.size + 2)) (HF.out.2.1.trans HW3.out.2.1 (fun _ _ q => q))
  have HZ := Lib.hid (And.intro hov hfz)
  clear hov hfz hst
  generalize w3.setCells (w.heap.size + 2) 0 (cellsB (tornOf a b)) = w4 at *
  go_wp2_with fail
  refine bodyPost_ret (results_cell_row rfl _ _ (w.heap.size + 2) 37 (cellsB (tornOf a b)).toArray (0, 0) _ rfl HZ.out.1 Try.underlying37 rfl (by rw [infoSector]; simp [cellsB_len, HW3.out.2.2.1])) rfl ?_
  exact ⟨rfl, HZ.out.2⟩
end Go.Proofs.Ytbnegiiombnnaaa
