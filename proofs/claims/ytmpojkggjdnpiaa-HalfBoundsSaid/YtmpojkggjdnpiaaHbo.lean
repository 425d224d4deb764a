/- The law's bounds. -/
import Derived.Test.YtmpojkggjdnpiaaHkn
import Derived.ArgAppend
import Derived.Deep.RegionLawGrows
namespace Go.Proofs.Ytmpojkggjdnpiaa
open Go.RowKit

theorem nought_cell (N k : Nat) (h : k < N) : (cellsB (nought N))[k]? = some (.int .u8 0) := by
  simp [cellsB, nought, h]
theorem slice_zero (w : World) : (Instr.buildSlice 25 1 #[(0, .int .u8 0)]).run Try.prog w = .ok (.slice (some ⟨w.heap.size, 0, none⟩) 1 1) (w.alloc (.cells #[.int .u8 0] 5)) := by
  obtain ⟨i0, hi, hz0, hz1, hz2⟩ := info_parts infoU8
  refine run_buildSlice w 25 5 1 _ _ i0 _ Try.underlying25 hi hz0 (by rw [hz1]; omega) (by rw [hz1]; omega) ?_
  rw [hz1]
  have hb : ((Array.range (1 * 1)).map ((Value.int .u8 0).cells[· % (Value.int .u8 0).cells.size]!)) = #[Value.int .u8 0] := by
    have := made_bytes #[Value.int .u8 0] 1 (1 * 1) rfl (by omega)
    exact this
  rw [hb]
  simp [Instr.fill, Value.cells]

section
variable {ops : Array Oper} {o : Oper} {a : Act} {Q : Exit → Act → World → Prop}
theorem run_long {w : World} (ty : TypeId) {ad ad2 : Addr} {b : List UInt8} (hr : Rd w (some ad) 32768 b) (hc : w.cell? ad2 = some (.int .u8 0)) :
    ∃ A c w', (Builtin.append_ #[25, 25] ty #[.slice (some ad) 32768 32768, .slice (some ad2) 1 1]).run Try.prog w = .ok (.slice A 32769 c) w' ∧ Fr (fun _ => False) w w' := by
  obtain ⟨i0, hi, hz0, hz1, hz2⟩ := info_parts infoU8
  obtain ⟨ad', e, hcs⟩ := hr.cellsB (by omega)
  injection e with e
  subst e
  obtain ⟨v', w', hrun, h2, h3⟩ := run_append_arg_grows (P := Try.prog) w 25 ty 5 i0 (.int .u8 0) 1 1 Try.underlying25 hi hz0 hz1 hz2 rfl (by decide) ad 32768 32768 (cellsB b) (by rw [cellsB_len, hr.len]) hcs ad2 1 1 [.int .u8 0] rfl (fun j u hj => by
    cases j with
    | zero =>
      simp at hj
      subst hj
      have e0 : ad2.add 0 = ad2 := by
        cases ad2 with
        | mk b o s => cases s <;> simp [Addr.add]
      rw [e0]
      exact hc
    | succ j => simp at hj) (by omega) (by decide) (by omega)
  obtain ⟨A, c, rfl, _, _⟩ := own_slice h2
  exact ⟨A, c, w', hrun, (Fr.refl _ w).grown h3 (fun k hk => by cases hk)⟩
theorem step_long {w : World} {K : Act → World → Prop} {E : Prop} (hg : o.guard = none) (s x : Operand) (hop : o.op = Op.call { callee := Callee.builtin Builtin.append, args := #[s, x], argTypes := #[25, 25] })
    {ad ad2 : Addr} {b : List UInt8} (hr : Rd w (some ad) 32768 b) (hs : a.eval s = .slice (some ad) 32768 32768) (hx : a.eval x = .slice (some ad2) 1 1) (hc : w.cell? ad2 = some (.int .u8 0))
    (hK : ∀ A c w', Fr (fun _ => False) w w' → K (a.put o.dst (.slice A 32769 c)) w') : if Region.wanted o (yielded ops a.tmps) = true then Oper.wp Try.prog o a w K Q else E := by
  have hw : Region.wanted o (yielded ops a.tmps) = true := by simp [Region.wanted, hg]
  rw [if_pos hw]
  obtain ⟨A, c, w', hrun, h3⟩ := run_long o.type hr hc
  unfold Oper.wp
  simp [execOp, hop, resolve, invoke, builtin, hs, hx, hrun, Result.andThen]
  exact hK A c w' h3
theorem wpList_long {rest : List Oper} {w : World} (hg : o.guard = none) (s x : Operand) (hop : o.op = Op.call { callee := Callee.builtin Builtin.append, args := #[s, x], argTypes := #[25, 25] })
    {ad ad2 : Addr} {b : List UInt8} (hr : Rd w (some ad) 32768 b) (hs : a.eval s = .slice (some ad) 32768 32768) (hx : a.eval x = .slice (some ad2) 1 1) (hc : w.cell? ad2 = some (.int .u8 0))
    (hK : ∀ A c w', Fr (fun _ => False) w w' → wpList Try.prog ops Q rest (a.put o.dst (.slice A 32769 c)) w') : wpList Try.prog ops Q (o :: rest) a w := by
  refine wpList_plain hg fun K hK' => ?_
  obtain ⟨A, c, w', hrun, h3⟩ := run_long o.type hr hc
  unfold Oper.wp
  simp [execOp, hop, resolve, invoke, builtin, hs, hx, hrun, Result.andThen]
  exact hK' _ _ (hK A c w' h3)
end

set_option maxRecDepth 100000 in
set_option maxHeartbeats 4000000 in
theorem law_HalfBounds (w : World) : Calls Try.prog 7 #[] w fun e w' => e = .returned (.bool true) ∧ Fr (fun _ => False) w w' := by
  have hmk : ∀ W, (Instr.makeSlice 25 (.int .i64 32768) (.int .i64 32768)).run Try.prog W = .ok (.slice (some ⟨W.heap.size, 0, none⟩) 32768 32768) (W.alloc (.cells (cellsB (nought 32768)).toArray 5)) := fun W => make_bytes W 32768 (by omega)
  have hnc := nought_cell 32768 32767 (by omega)
  have heb : ∃ bb : List UInt8, bb.length = 32768 ∧ (cellsB (nought 32768)).set 32767 (.int .u8 7) = cellsB bb := ⟨(nought 32768).set 32767 7, by rw [List.length_set, nought_len], by unfold cellsB; rw [List.map_set]; rfl⟩
  have HEB := Lib.hid heb
  clear heb
  go_enter Try.func7, Try.ntmps7
  go_wp2_with fail
  obtain ⟨bb, hbl, he⟩ := HEB.out
  rw [he]
  have hf0 : Fr (fun _ => False) w ((w.alloc (.cells #[.int .u64 4611686018427387904, .int .i64 2147483647] 24)).alloc (.cells (cellsB bb).toArray 5)) := ((Fr.refl _ w).alloc _).alloc _
  have hb1 : Blk ((w.alloc (.cells #[.int .u64 4611686018427387904, .int .i64 2147483647] 24)).alloc (.cells (cellsB bb).toArray 5)) w.heap.size 24 #[.int .u64 4611686018427387904, .int .i64 2147483647] := (Blk.new w _ _).keep ((Fr.refl (fun _ => False) _).alloc _) (fun q => q)
  have hb2 : Blk ((w.alloc (.cells #[.int .u64 4611686018427387904, .int .i64 2147483647] 24)).alloc (.cells (cellsB bb).toArray 5)) (w.heap.size + 1) 5 (cellsB bb).toArray := by
    have := Blk.new (w.alloc (.cells #[.int .u64 4611686018427387904, .int .i64 2147483647] 24)) 5 (cellsB bb).toArray
    rwa [World.size_alloc] at this
  generalize (w.alloc (.cells #[.int .u64 4611686018427387904, .int .i64 2147483647] 24)).alloc (.cells (cellsB bb).toArray 5) = w0 at *
  have hrd : Rd w0 (some ⟨w.heap.size + 1, 0, none⟩) bb.length bb := hb2.rd (by rw [hbl]; omega)
  have hrd' : Rd w0 (some ⟨w.heap.size + 1, 0, none⟩) 32768 bb := by rw [hbl] at hrd; exact hrd
  have hmany : (many bb.length + 1) / 2 = 342 := by rw [hbl]; rfl
  have HS := split_any (cb := 32768) hrd (by omega) 4611686018427387904 2147483647 (by decide)
  rw [hbl] at HS
  refine HS.mono ?_
  rintro e w1 ⟨R, rfl, hR, hbR, hf1⟩
  rw [hmany]
  have HB := Lib.hid (And.intro hbR (And.intro (hb1.keep hf1 (fun q => q)) (And.intro (hb2.keep hf1 (fun q => q)) (hf0.trans hf1 (fun _ _ q => q)))))
  have HK := Lib.hid (And.intro hbl (And.intro hmany hR))
  have HR1 := Lib.hid (hrd'.keep hf1 (fun _ _ q => q))
  clear he hf0 hb1 hb2 hrd hrd' hmany HS hR hbR hf1 hmk hnc HEB hbl
  go_wp2_with fail
  have hin : SecIn w1 (.slice (some ⟨R, 0, none⟩) 342 342) (secs (rowB 4611686018427387904 2147483647 bb) 342) := secIn_row (N := 342) HB.out.1 (by rw [rowB_len, HK.out.2.1]) (Nat.le_refl _)
  refine (join_any hin (by rw [secs_len]; omega)).mono ?_
  rintro e w2 ⟨_, j2, hf2⟩
  have hjr := join_row (c := 4611686018427387904) (n := 2147483647) (b := bb) (by rw [HK.out.1]; omega) (by decide) []
  rw [List.append_nil, HK.out.2.1] at hjr
  obtain ⟨A', rfl, hrA⟩ := j2 _ hjr.2
  rw [hjr.1]
  have hnd : needN ((bb.length : Nat) : Int) = 342 := by rw [HK.out.1]; rfl
  rw [hnd]
  rw [HK.out.1] at hrA ⊢
  have HB2 := Lib.hid (And.intro (HB.out.1.keep hf2 (fun q => q)) (And.intro (HB.out.2.1.keep hf2 (fun q => q)) (And.intro (HB.out.2.2.1.keep hf2 (fun q => q)) (HB.out.2.2.2.trans hf2 (fun _ _ q => q)))))
  have HR2 := Lib.hid (And.intro (HR1.out.keep hf2 (fun _ _ q => q)) hrA)
  clear hin j2 hf2 hjr hnd hrA
  go_wp2_with fail
  have hf3 : Fr (fun _ => False) w2 (w2.alloc (.cells #[.int .u64 4611686018427387904, .int .i64 2147483647] 24)) := (Fr.refl _ w2).alloc _
  have hbt := Blk.new w2 24 #[.int .u64 4611686018427387904, .int .i64 2147483647]
  generalize w2.alloc (.cells #[.int .u64 4611686018427387904, .int .i64 2147483647] 24) = w3 at *
  have HC : Hid (∀ w', Fr (fun _ => False) w3 w' → w'.cell? ⟨w.heap.size, 0, none⟩ = some (.int .u64 4611686018427387904) ∧ w'.cell? ⟨w.heap.size, 1, none⟩ = some (.int .i64 2147483647)) := Lib.hid fun w' hf => by
    have hb := (HB2.out.2.1.keep hf3 (fun q => q)).keep hf (fun q => q)
    have c0 := hb.cell 0
    have c1 := hb.cell 1
    exact ⟨by simpa using c0, by simpa using c1⟩
  have HB3 := Lib.hid (And.intro (HB2.out.1.keep hf3 (fun q => q)) (And.intro (HB2.out.2.1.keep hf3 (fun q => q)) (And.intro hbt (HB2.out.2.2.2.trans hf3 (fun _ _ q => q)))))
  have HR3 := Lib.hid (And.intro (HR2.out.1.keep hf3 (fun _ _ q => q)) (HR2.out.2.keep hf3 (fun _ _ q => q)))
  clear hf3 hbt
  have hsz := slice_zero
  have HZ : Hid (∀ w : World, Fr (fun _ => False) w (w.alloc (.cells #[.int .u8 0] 5)) ∧ (w.alloc (.cells #[.int .u8 0] 5)).cell? ⟨w.heap.size, 0, none⟩ = some (.int .u8 0)) := Lib.hid fun w => ⟨(Fr.refl _ w).alloc _, by
    have := (Blk.new w 5 #[.int .u8 0]).cell 0
    rw [this]
    rfl⟩
  go_region_held3 (fun w' => w'.cell? ⟨w.heap.size, 0, none⟩ = some (.int .u64 4611686018427387904) ∧ w'.cell? ⟨w.heap.size, 1, none⟩ = some (.int .i64 2147483647))
    (first | (exact HC.out _ (Fr.refl _ w3).drew) | (exact HC.out _ (Fr.refl _ w3)) | (exact HC.out _ ((Fr.refl _ w3).alloc _)) | (exact HC.out _ ((Fr.refl _ w3).drew.alloc _)) | (exact HC.out _ (HFL.out)) | (exact HC.out _ HFS.out) | go_keep)
    ((first
      | (refine step_long rfl (.tmp 51) (.tmp 52) rfl (HR3.out.1.keep ((Fr.refl (fun _ => False) w3).drew.alloc _) (fun _ _ q => q)) (by simp [Act.eval, Act.put]) (by simp [Act.eval, Act.put]) (HZ.out _).2 ?_; intro AL cL wL hfL; have HFL := Lib.hid (((Fr.refl (fun _ => False) w3).drew.alloc _).trans hfL (fun _ _ q => q)); clear hfL)
      | (go_at_call 9; refine (split_long _ _ _ (by decide) _ _ _ (by omega)).mono ?_; rintro e wS ⟨rfl, hfS⟩; have HFS := Lib.hid (HFL.out.trans hfS (fun _ _ q => q)); clear hfS)))
  go_wp2_with fail
  have HB4 := Lib.hid (And.intro (HB3.out.1.keep HFS.out (fun q => q)) (And.intro (HB3.out.2.1.keep HFS.out (fun q => q)) (And.intro (HB3.out.2.2.1.keep HFS.out (fun q => q)) (HB3.out.2.2.2.trans HFS.out (fun _ _ q => q)))))
  have HR4 := Lib.hid (And.intro (HR3.out.1.keep HFS.out (fun _ _ q => q)) (HR3.out.2.keep HFS.out (fun _ _ q => q)))
  clear HB HR1 HB2 HR2 HC HB3 HR3 HFL HFS
  refine (split_bad _ 4611686018427387905 0 (by decide) _ _ _).mono ?_
  rintro e w5 ⟨rfl, hf5⟩
  have HF5 := Lib.hid hf5
  clear hf5
  go_wp2_with fail
  refine (split_bad _ 1 (-1) (by decide) _ _ _).mono ?_
  rintro e w6 ⟨rfl, hf6⟩
  have hf56 := HF5.out.trans hf6 (fun _ _ q => q)
  have HB6 := Lib.hid (And.intro (HB4.out.1.keep hf56 (fun q => q)) (And.intro (HB4.out.2.1.keep hf56 (fun q => q)) (And.intro (HB4.out.2.2.1.keep hf56 (fun q => q)) (HB4.out.2.2.2.trans hf56 (fun _ _ q => q)))))
  have HR6 := Lib.hid (And.intro (HR4.out.1.keep hf56 (fun _ _ q => q)) (HR4.out.2.keep hf56 (fun _ _ q => q)))
  clear HB4 HR4 HF5 hf6 hf56
  go_wp2_with (refine wpList_long rfl (.tmp 69) (.tmp 70) rfl (HR6.out.1.keep ((Fr.refl (fun _ => False) w6).alloc _) (fun _ _ q => q)) (by simp [Act.eval, Act.put]) (by simp [Act.eval, Act.put]) (HZ.out _).2 ?_; intro AM cM w7 hf7; have HF7 := Lib.hid (((Fr.refl (fun _ => False) w6).alloc _).trans hf7 (fun _ _ q => q)); clear hf7)
  refine (split_bad _ 0 0 (by decide) _ _ _).mono ?_
  rintro e w8 ⟨rfl, hf8⟩
  have hf78 := HF7.out.trans hf8 (fun _ _ q => q)
  have HB8 := Lib.hid (And.intro (HB6.out.1.keep hf78 (fun q => q)) (And.intro (HB6.out.2.1.keep hf78 (fun q => q)) (And.intro (HB6.out.2.2.1.keep hf78 (fun q => q)) (HB6.out.2.2.2.trans hf78 (fun _ _ q => q)))))
  have HR8 := Lib.hid (And.intro (HR6.out.1.keep hf78 (fun _ _ q => q)) (HR6.out.2.keep hf78 (fun _ _ q => q)))
  clear HB6 HR6 HF7 hf8 hf78
  go_wp2_with fail
  refine (join_any (w := w8) (v := .slice none 0 0) (ss := []) (.inl ⟨rfl, _, _, rfl⟩) (by simp)).mono ?_
  rintro e w9 ⟨j1, _, hf9⟩
  obtain rfl := j1 join_nil
  have hfa : Fr (fun _ => False) w8 (w9.alloc (.cells #[.int .u64 0, .int .i64 0] 24)) := hf9.alloc _
  clear j1
  go_wp2_with fail
  have b9 := HB8.out.1.keep hfa (fun q => q)
  have hin : SecIn (w9.alloc (.cells #[.int .u64 0, .int .i64 0] 24)) (.slice (some ⟨R, 0, none⟩) 341 342) (secs (rowB 4611686018427387904 2147483647 bb) 341) := secIn_row (N := 342) b9 (by rw [rowB_len, HK.out.2.1]) (by omega)
  refine (join_any hin (by rw [secs_len]; omega)).mono ?_
  rintro e wA ⟨j1, _, hfA⟩
  have hml : 2 * 341 < many bb.length := by rw [HK.out.1]; decide
  obtain rfl := j1 (join_less (c := 4611686018427387904) (n := 2147483647) (b := bb) (by rw [HK.out.1]; omega) (by decide) hml)
  have hfB : Fr (fun _ => False) w8 (wA.alloc (.cells #[.int .u64 0, .int .i64 0] 24)) := (hfa.trans hfA (fun _ _ q => q)).alloc _
  clear j1 hin b9 hml
  have t1 := HB8.out.2.1.keep hfB (fun q => q)
  have t2 := HB8.out.2.2.1.keep hfB (fun q => q)
  have cs1 := conv_string (P := Try.prog) (c := 32768) 25 9 5 (HR8.out.1.keep hfB (fun _ _ q => q)) Try.underlying25 Try.underlying5 Try.underlying9
  have cs2 := conv_string (P := Try.prog) (c := 32768) 25 9 5 (HR8.out.2.keep hfB (fun _ _ q => q)) Try.underlying25 Try.underlying5 Try.underlying9
  have HRT : Hid (∀ b (wX : World), Blk wX b 24 #[.int .u64 4611686018427387904, .int .i64 2147483647] → wX.rangeAt b 0 [.int .u64 4611686018427387904, .int .i64 2147483647]) := Lib.hid fun b wX hb j v hv => by
    rw [Nat.zero_add, hb.cell j]
    simpa using hv
  have HT := Lib.hid (And.intro (HRT.out _ _ t1) (HRT.out _ _ t2))
  have HW := Lib.hid (HB8.out.2.2.2.trans hfB (fun _ _ q => q))
  clear t1 t2 hfB hfa hf9 hfA HB8 HR8 hsz
  go_wp2_with (first
    | (refine wpList_load_mid' (by rfl) 24 _ rfl w2.heap.size 0 rfl [.int .u64 4611686018427387904, .int .i64 2147483647] _ HT.out.2 Try.underlying24 rfl infoTag ?_)
    | (refine wpList_load_mid' (by rfl) 24 _ rfl w.heap.size 0 rfl [.int .u64 4611686018427387904, .int .i64 2147483647] _ HT.out.1 Try.underlying24 rfl infoTag ?_))
  refine (need_any _ (-1)).mono ?_
  rintro e wN ⟨rfl, rfl⟩
  have n0 : needN (-1) = 0 := rfl
  rw [n0]
  clear n0
  go_wp2_with fail
  refine (need_any _ 32769).mono ?_
  rintro e wN ⟨rfl, rfl⟩
  have n0 : needN 32769 = 0 := rfl
  rw [n0]
  clear n0
  go_wp2_with fail
  refine (need_any _ 32768).mono ?_
  rintro e wN ⟨rfl, rfl⟩
  have n0 : needN 32768 = 342 := rfl
  rw [n0]
  clear n0
  go_wp2_with fail
  refine (known_any _).mono ?_
  rintro e wE ⟨rfl, hfE⟩
  have HE := Lib.hid (HW.out.trans hfE (fun _ _ q => q))
  go_wp2_with fail
  go_ret
  exact ⟨rfl, HE.out⟩
end Go.Proofs.Ytmpojkggjdnpiaa
