/- couponref04.Head. -/
import Derived.Test.YtjdbgojnpnlblaaGreatVnl
import Derived.Lib.SlBytesConst
import Derived.ArgAppend
namespace Go.Proofs.YtjdbgojnpnlblaaGreat
open Go.RowKit

section
variable {ops : Array Oper} {o : Oper} {a : Act} {Q : Exit → Act → World → Prop}
theorem wpList_grows {rest : List Oper} {w : World} (hg : o.guard = none) (s x : Operand) (hop : o.op = Op.call { callee := Callee.builtin Builtin.append, args := #[s, x], argTypes := #[68, 68] }) {b cap : Nat} {xs l : List UInt8} (hs : a.eval s = .slice (some ⟨b, 0, none⟩) xs.length cap) (holds : w.rangeAt b 0 (cellsB xs)) {R c : Nat} (hx : a.eval x = .slice (some ⟨R, 0, none⟩) l.length c) (hnews : w.rangeAt R 0 (cellsB l)) (hgr : cap < xs.length + l.length) (hN : xs.length + l.length ≤ 1000000)
    (hK : ∀ v' w', w'.ownsRow w.heap.size 5 1 v' (xs ++ l).length (cellsB (xs ++ l)) → Fr (fun _ => False) w w' → wpList Tryz.prog ops Q rest (a.put o.dst v') w') : wpList Tryz.prog ops Q (o :: rest) a w := by
  refine wpList_plain hg fun K hK' => ?_
  obtain ⟨i0, hi, hz0, hz1, hz2⟩ := info_parts infoU8
  obtain ⟨v', w', hrun, ho, hgb⟩ := run_append_arg_grows (P := Tryz.prog) w 68 o.type 5 i0 (.int .u8 0) 1 1 Tryz.underlying68 hi hz0 hz1 hz2 rfl (by omega) ⟨b, 0, none⟩ xs.length cap (cellsB xs) (by rw [cellsB_len]; omega) (fun j u h => by
    rw [Addr.add_mid]
    exact holds j u h) ⟨R, 0, none⟩ l.length c (cellsB l) (by rw [cellsB_len]; omega) (fun j u h => by
    rw [Addr.add_mid]
    exact hnews j u h) hgr (by simp only [maxLen]; omega) (by omega)
  unfold Oper.wp
  simp [execOp, hop, resolve, invoke, builtin, hs, hx, hrun, Result.andThen]
  exact hK' _ _ (hK v' w' (by rw [show cellsB (xs ++ l) = cellsB xs ++ cellsB l by simp [cellsB], List.length_append]; exact ho) ((Fr.refl _ w).grown hgb (fun k e => by cases e)))
end
theorem head_copy {w5 : World} {b c s cp : Nat} {ad : Addr} (hb5 : Blk w5 b 45 (cellsB (nought 128)).toArray) (hR : Rd w5 (some ad) 20 (hd20 c s)) :
    ∃ w6, (∀ ty, (Builtin.copy_ #[68, 68] ty #[.slice (some ⟨b, 0, none⟩) 128 128, .slice (some ad) 20 cp]).run Tryz.prog w5 = .ok (goInt 20) w6) ∧ Blk w6 b 45 (cellsB (hdS c s)).toArray ∧ Fr (fun x => x = b) w5 w6 := by
  obtain ⟨ad', e, hc⟩ := hR.cellsB (by omega)
  injection e with e
  subst e
  refine ⟨w5.setCells b 0 (cellsB (hd20 c s)), fun ty => ?_, ?_, Fr.setCells (F := fun x => x = b) (.inl rfl) (Fr.refl _ _)⟩
  · have h := run_copy_cells (P := Tryz.prog) w5 68 68 ty 5 b 0 128 128 ad 20 cp (cellsB (hd20 c s)) Tryz.underlying68 (by kernel_rfl) (by rw [cellsB_len, hd20_len]; rfl)
      (fun j v hv => hc j v hv) (fun j hj => ((hb5.there (o := 0) (n := 20) (by simp [cellsB_len, nought_len])) j (by rw [cellsB_len, hd20_len] at hj; exact hj)).1) (fun j hj => ((hb5.there (o := 0) (n := 20) (by simp [cellsB_len, nought_len])) j (by rw [cellsB_len, hd20_len] at hj; exact hj)).2) (cellsB_one _)
    rw [cellsB_len, hd20_len] at h
    exact h
  · have t1 := Blk.over (w := w5) (o := 0) (m := hd20 c s) hb5 (by rw [nought_len, hd20_len]; omega)
    rw [hdS_is] at t1
    exact t1
theorem head_done {w w5 w6 W : World} {c s : Nat} (k0 : Blk W w.heap.size 45 (cellsB (nought 128)).toArray) (hfr : Fr (fun _ => False) w W) (f5 : Fr (fun _ => False) W w5) (t1 : Blk w6 (w.heap.size + 1) 45 (cellsB (hdS c s)).toArray) (t2 : Fr (fun x => x = w.heap.size + 1) w5 w6) : ∃ z, z = hdS c s ∧ z.length = 128 ∧ w6.rangeAt (w.heap.size + 1) 0 (cellsB z) ∧ Blk w6 w.heap.size 45 (cellsB (nought 128)).toArray ∧ Fr (fun _ => False) w w6 := by
  refine ⟨_, rfl, hdS_len c s, ?_, (k0.keep f5 (fun q => q)).keep t2 (fun q => by omega), (hfr.trans f5 (fun _ _ q => q)).trans t2 (fun i hi q => by omega)⟩
  have := t1.range 0 128
  rwa [List.drop_zero, List.take_of_length_le (Nat.le_of_eq (hdS_len c s))] at this
set_option maxRecDepth 100000 in
set_option maxHeartbeats 2000000 in
theorem rhead_any (w : World) (c s : Nat) (hc : c ≤ 18446744073709551615) (hs : s ≤ 18446744073709551615) : Calls Tryz.prog 15 #[.int .u64 (c : Nat), .int .u64 (s : Nat)] w fun e w' => e = .returned (av (hdS c s)) ∧ Fr (fun _ => False) w w' := by
  have HC := Lib.hid (And.intro hc hs)
  obtain ⟨W, hW, k0, k1, hsz, hfr⟩ := alloc2 w (cellsB (nought 128)).toArray (cellsB (nought 128)).toArray 45 45
  obtain ⟨W1, hW1, km, hf1⟩ : ∃ W1, W1 = W.alloc (.cells #[.int .u8 67, .int .u8 80, .int .u8 76, .int .u8 71] 5 (4, 5)) ∧ W1.rangeAt W.heap.size 0 (cellsB markL) ∧ Fr (fun _ => False) W W1 := by
    refine ⟨_, rfl, fun j u hj => ?_, (Fr.refl _ _).alloc _⟩
    have := cell_of_row (W.alloc (.cells #[.int .u8 67, .int .u8 80, .int .u8 76, .int .u8 71] 5 (4, 5))) W.heap.size j _ _ (4, 5) (heap_alloc_new W _)
    rw [Nat.zero_add, this]
    rw [← hj, show (#[.int .u8 67, .int .u8 80, .int .u8 76, .int .u8 71] : Array Value) = (cellsB markL).toArray from rfl, List.getElem?_toArray]
  have e2 : w.heap.size + 1 + 1 = W.heap.size := by omega
  have HK := Lib.hid (And.intro k0 (And.intro k1 (And.intro hsz hfr)))
  have H1 := Lib.hid (And.intro km hf1)
  have HE := Lib.hid (And.intro e2 (And.intro hW hW1))
  have hcv := Lib.hid (Lib.run_convert_bytes_const (P := Tryz.prog) W 68 5 #[.int .u8 67, .int .u8 80, .int .u8 76, .int .u8 71] 4 4 Tryz.underlying68 Tryz.underlying5)
  rw [show (#[.int .u8 67, .int .u8 80, .int .u8 76, .int .u8 71] : Array Value).size = 4 from rfl] at hcv
  clear k0 k1 hsz hfr km hf1 e2 hW hW1 hc hs
  go_enter Tryz.func15, Tryz.ntmps15
  go_wp2_with (first
    | (refine wpList_zero rfl 45 rfl zeroSector ?_)
    | (rw [HE.out.1, ← HE.out.2.1, hcv.out, ← HE.out.2.2]))
  refine (rput_any W1 c 8 HC.out.1 (by omega)).mono ?_
  rintro e w2 ⟨R2, rfl, hR2, hb2, hf2⟩
  have hr2 : w2.rangeAt R2 0 (cellsB (be c 8)) := by
    have := hb2.range 0 8
    rwa [List.drop_zero, List.take_of_length_le (Nat.le_of_eq (be_len _ _))] at this
  have hm2 : w2.rangeAt W.heap.size 0 (cellsB markL) := fun j u hj => by
    have := H1.out.1 j u hj
    rw [← this]
    exact hf2.cell (World.block_lt_of_cell? W1 _ this) (fun q => q)
  have H2 := Lib.hid (And.intro hm2 (And.intro hr2 (H1.out.2.trans hf2 (fun _ _ q => q))))
  clear hR2 hb2 hf2 hr2 hm2 H1
  go_wp2_with (at_builtin; refine wpList_grows rfl (.tmp 8) (.tmp 10) rfl (xs := markL) (l := be c 8) rfl H2.out.1 rfl H2.out.2.1 (by rw [be_len]; decide) (by rw [be_len]; decide) ?_; intro v3 w3 ho3 hf3; have H3 := Lib.hid (And.intro ho3 (And.intro (H2.out.2.2.trans hf3 (fun _ _ q => q)) (And.intro H2.out.2.2.size hf3.size))); clear ho3 hf3 H2)
  refine (rput_any w3 s 8 HC.out.2 (by omega)).mono ?_
  rintro e w4 ⟨R4, rfl, hR4, hb4, hf4⟩
  have hr4 := bytes_rd hb4 (be_len _ _) (by omega)
  have ho4 := own_keep H3.out.1 hf4 (fun _ _ q => q)
  have H4 := Lib.hid (And.intro ho4 (And.intro hr4 (And.intro (H3.out.2.1.trans hf4 (fun _ _ q => q)) (And.intro H3.out.2.2.1 (Nat.le_trans H3.out.2.2.2 hf4.size)))))
  clear hR4 hb4 hf4 hr4 ho4 H3
  go_wp2_with (first
    | (at_builtin; refine wpList_more rfl (.tmp 11) (.tmp 13) rfl w2.heap.size v3 (markL ++ be c 8) (be s 8) rfl H4.out.1 (some ⟨R4, 0, none⟩) 8 8 rfl H4.out.2.1 (by simp [markL, be_len]) H4.out.2.2.2.2 ?_; intro v5 w5 ho5 hg5 hat5; have H5 := Lib.hid (And.intro ho5 (H4.out.2.2.1.grown hg5 (fun k hk => .inr (Nat.le_trans H4.out.2.2.2.1 (own_low H4.out.1 hk))))); clear ho5 hg5 hat5 H4; rw [List.append_assoc, show markL ++ (be c 8 ++ be s 8) = hd20 c s from rfl, hd20_len] at H5; obtain ⟨A, cp, rfl, hcp1, hcp2⟩ := own_slice H5.out.1; have hR := Rd.of_own H5.out.1; obtain ⟨ad, rfl, hlt⟩ := hR.lt (by omega); obtain ⟨w6, hcp, t1, t2⟩ : ∃ w6, (∀ ty, (Builtin.copy_ #[68, 68] ty #[.slice (some ⟨w.heap.size + 1, 0, none⟩) 128 128, .slice (some ad) 20 cp]).run Tryz.prog w5 = .ok (goInt 20) w6) ∧ Blk w6 (w.heap.size + 1) 45 (cellsB (hdS c s)).toArray ∧ Fr (fun b => b = w.heap.size + 1) w5 w6 := head_copy (HK.out.2.1.keep H5.out.2 (fun q => q)) hR; clear hcp1 hcp2 hlt hR; obtain ⟨z, hz, hzl, hrest⟩ := head_done HK.out.1 HK.out.2.2.2 H5.out.2 t1 t2; have H6 := Lib.hid hrest; clear t1 t2 hrest)
    | (refine wpList_load_mid rfl 45 _ rfl (w.heap.size + 1) 0 rfl (cellsB z) _ H6.out.1 Tryz.underlying45 rfl (by rw [infoSector, cellsB_len, hzl]) ?_)
    | (refine wpList_store_mid rfl 45 _ _ rfl w.heap.size 0 (cellsB z).toArray rfl rfl (H6.out.2.1.there (by simp [cellsB_len, nought_len, hzl])) (by rw [infoSector]; simp [cellsB_len, hzl]) (all_oneCell_toArray (cellsB_one _)) ?_))
  refine bodyPost_ret (results_cell_row rfl _ _ w.heap.size 45 (cellsB z).toArray (0, 0) _ rfl ?_ Tryz.underlying45 rfl (by rw [infoSector]; simp [cellsB_len, hzl])) rfl ?_
  · have := H6.out.2.1.over (o := 0) (m := z) (by rw [nought_len, hzl]; omega)
    rw [patch_all (by rw [nought_len, hzl])] at this
    exact this
  · exact ⟨by rw [hz], Fr.setCells (.inr (Nat.le_refl _)) H6.out.2.2⟩
end Go.Proofs.YtjdbgojnpnlblaaGreat
