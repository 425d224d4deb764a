/- couponlaw03.known. -/
import Derived.Test.YtiobmejnamdneaaKnp
import Derived.ChangeKeysEq
namespace Go.Proofs.Ytiobmejnamdneaa
open Go.RowKit Go.Maps

theorem eqItems_bytes (d : Nat) (l m : List UInt8) (w : World) : ∀ is : List Nat, (∀ i ∈ is, i < l.length ∧ i < m.length) → (Op.eqItems (d + 1) 5 (Try.prog.cellsOf 5) (cellsB l).toArray (cellsB m).toArray is).run Try.prog w = .ok (is.all fun i => l[i]? == m[i]?) w
  | [], _ => by simp [Op.eqItems]
  | i :: is, h => by
    have hc : Try.prog.cellsOf 5 = 1 := by kernel_rfl
    have ih := eqItems_bytes d l m w is (fun j hj => h j (by simp [hj]))
    rw [hc] at ih ⊢
    obtain ⟨h1, h2⟩ := h i (by simp)
    have e1 : (cellsB l).toArray[i * 1]? = some (.int .u8 (l[i].toNat : Int)) := by simp [cellsB, h1]
    have e2 : (cellsB m).toArray[i * 1]? = some (.int .u8 (m[i].toNat : Int)) := by simp [cellsB, h2]
    have hp : Try.prog.plainKey 5 = true := by kernel_rfl
    have hq : (Op.equalIn (d + 1) 5 (.int .u8 (l[i].toNat : Int)) (.int .u8 (m[i].toNat : Int))).run Try.prog w = .ok (l[i]? == m[i]?) w := by
      simp only [Op.equalIn, Sem.run_bind, run_underlying Try.underlying5, Result.andThen_ok]
      have e3 : ((l[i].toNat : Int) == (m[i].toNat : Int)) = (l[i]? == m[i]?) := by
        rw [List.getElem?_eq_getElem h1, List.getElem?_eq_getElem h2, Bool.eq_iff_iff]
        simp only [beq_iff_eq, Option.some.injEq]
        exact Int.natCast_inj.trans UInt8.toNat_inj
      simp [e3]
    simp only [Op.eqItems, Sem.run_bind, run_part_plain w hp e1, run_part_plain w hp e2, hq, Result.andThen_ok, List.all_cons]
    cases hb : (l[i]? == m[i]?) with
    | false => simp
    | true => simp [ih]
theorem all_same {l m : List UInt8} (hl : l.length = m.length) : ((List.range l.length).all fun i => l[i]? == m[i]?) = decide (l = m) := by
  rw [Bool.eq_iff_iff, List.all_eq_true, decide_eq_true_eq]
  constructor
  · intro h
    apply List.ext_getElem? 
    intro i
    by_cases hi : i < l.length
    · simpa using h i (List.mem_range.2 hi)
    · rw [List.getElem?_eq_none (by omega), List.getElem?_eq_none (by omega)]
  · rintro rfl i _
    simp
theorem sec_equal (l m : List UInt8) (hl : l.length = 128) (hm : m.length = 128) (w : World) : (Op.equal 31 (av l) (av m)).run Try.prog w = .ok (decide (l = m)) w := by
  obtain ⟨i0, hi, _⟩ := info_parts infoU8
  have h := run_equalIn_array (P := Try.prog) w 9999 (t := 31) (cellsB l).toArray (cellsB m).toArray Try.underlying31 hi
  rw [eqItems_bytes 9998 l m w (List.range 128) (fun i hi => by have := List.mem_range.1 hi; omega)] at h
  have e := all_same (l := l) (m := m) (by omega)
  rw [hl] at e
  rw [e] at h
  exact h
theorem sec_neq (l m : List UInt8) (hl : l.length = 128) (hm : m.length = 128) (w : World) : (binOp .neq 31 (av l) (av m)).run Try.prog w = .ok (.bool (!decide (l = m))) w := by
  simp [binOp, sec_equal l m hl hm w]
theorem sec_eql (l m : List UInt8) (hl : l.length = 128) (hm : m.length = 128) (w : World) : (binOp .eql 31 (av l) (av m)).run Try.prog w = .ok (.bool (decide (l = m))) w := by
  simp [binOp, sec_equal l m hl hm w]

theorem fold_set_at : ∀ (l : List Value) (o k : Nat) (acc : Array Value), o + k + l.length ≤ acc.size → ((l.zipIdx k).foldl (fun cs (x : Value × Nat) => cs.setIfInBounds (o + x.2) x.1) acc) = (acc.toList.take (o + k) ++ (l ++ acc.toList.drop (o + k + l.length))).toArray
  | [], o, k, acc, _ => by simp
  | x :: l, o, k, acc, h => by
    simp only [List.length_cons] at h
    rw [List.zipIdx_cons, List.foldl_cons, fold_set_at l o (k + 1) _ (by simp; omega)]
    simp only [Array.toList_setIfInBounds]
    have h1 : o + k < acc.toList.length := by simp; omega
    have e0 : o + (k + 1) = o + k + 1 := by omega
    rw [e0]
    have e1 : (acc.toList.set (o + k) x).take (o + k + 1) = acc.toList.take (o + k) ++ [x] := by
      rw [List.take_set, List.take_succ_eq_append_getElem h1]
      have h4 : (acc.toList.take (o + k)).length = o + k := by rw [List.length_take]; omega
      rw [List.set_append_right _ _ (by omega), h4, Nat.sub_self]
      rfl
    have e2 : (acc.toList.set (o + k) x).drop (o + k + 1 + l.length) = acc.toList.drop (o + k + (l.length + 1)) := by
      rw [List.drop_set_of_lt (by omega)]
      congr 1
      omega
    rw [e1, e2]
    simp
theorem fill_two {cs ds base : List Value} (K : Nat) (hc : cs.length = K) (hd : ds.length = K) (hb : base.length = 2 * K) : Instr.fill (fun i => some (i * K, K)) base.toArray [(0, .agg cs.toArray), (1, .agg ds.toArray)] = some (cs ++ ds).toArray := by
  have h1 := fold_set cs 0 base.toArray (by simp; omega)
  have h2 := fold_set_at ds K 0 (cs ++ base.drop K).toArray (by simp; omega)
  simp only [Instr.fill, Value.cells, Nat.zero_mul, Nat.one_mul]
  rw [if_neg (by simp; omega)]
  rw [← Array.foldl_toList, Array.toList_zipIdx, List.toList_toArray, h1]
  simp only [List.toList_toArray, List.take_zero, List.nil_append, Nat.zero_add, hc]
  rw [if_neg (by simp; omega)]
  rw [← Array.foldl_toList, Array.toList_zipIdx, List.toList_toArray, h2]
  simp only [List.toList_toArray, Nat.add_zero]
  have e1 : (cs ++ base.drop K).take K = cs := List.take_left' hc
  have e2 : (cs ++ base.drop K).drop (K + ds.length) = [] := List.drop_eq_nil_of_le (by simp; omega)
  rw [e1, e2, List.append_nil]
theorem slice_of_two {a b : List UInt8} (ha : a.length = 128) (hb : b.length = 128) (w : World) : (Instr.buildSlice 38 2 #[(0, av a), (1, av b)]).run Try.prog w = .ok (.slice (some ⟨w.heap.size, 0, none⟩) 2 2) (w.alloc (.cells (cellsB (a ++ b)).toArray 31)) := by
  obtain ⟨i0, hi, hz0, hz1, hz2⟩ := info_parts infoSec
  refine run_buildSlice w 38 31 2 _ _ i0 _ Try.underlying38 hi hz0 (by rw [hz1]; omega) (by rw [hz1]; omega) ?_
  rw [hz1]
  have hq : ((Array.range (2 * 128)).map ((av (nought 128)).cells[· % (av (nought 128)).cells.size]!)) = (cellsB (nought 256)).toArray := made_bytes (av (nought 128)).cells 128 (2 * 128) rfl (by omega)
  rw [hq, cellsB_app]
  exact fill_two 128 (by rw [cellsB_len, ha]) (by rw [cellsB_len, hb]) (by rw [cellsB_len, nought_len])
section
variable {ops : Array Oper} {o : Oper} {a : Act} {Q : Exit → Act → World → Prop}
theorem wpList_build_two {rest : List Oper} {w : World} (hg : o.guard = none) (x y : Operand) (hop : o.op = .buildSlice 38 2 #[(0, x), (1, y)]) {l m : List UInt8} (hl : l.length = 128) (hm : m.length = 128) (hx : a.eval x = av l) (hy : a.eval y = av m)
    (hK : wpList Try.prog ops Q rest (a.put o.dst (.slice (some ⟨w.heap.size, 0, none⟩) 2 2)) (w.alloc (.cells (cellsB (l ++ m)).toArray 31))) : wpList Try.prog ops Q (o :: rest) a w := by
  refine wpList_plain hg fun K hK' => ?_
  have hr := slice_of_two hl hm w
  unfold Oper.wp execOp
  simp only [hop, hx, hy]
  simp [hr, hx, hy, Result.andThen]
  exact hK' _ _ hK
end

theorem left_1 (x y z : List UInt8) : leftL [x, y, z] (pickN 3 1) = y := by simp [leftL, pickN]
theorem left_4 (x y z : List UInt8) : leftL [x, y, z] (pickN 3 4) = tornL z y := by simp [leftL, pickN]
set_option maxRecDepth 100000 in
set_option maxHeartbeats 4000000 in
theorem known_any (w : World) : Calls Try.prog 5 #[] w fun e w' => e = .returned (.bool true) ∧ Fr (fun _ => False) w w' := by
  have F120 : ∀ w, Calls Try.prog 13 #[.int .u8 120] w fun e w' => e = .returned (av (fullL 120)) ∧ Fr (fun _ => False) w w' := fun w => full_any w 120
  have F121 : ∀ w, Calls Try.prog 13 #[.int .u8 121] w fun e w' => e = .returned (av (fullL 121)) ∧ Fr (fun _ => False) w w' := fun w => full_any w 121
  have F122 : ∀ w, Calls Try.prog 13 #[.int .u8 122] w fun e w' => e = .returned (av (fullL 122)) ∧ Fr (fun _ => False) w w' := fun w => full_any w 122
  obtain ⟨x, hx⟩ : ∃ x, x = fullL 120 := ⟨_, rfl⟩
  obtain ⟨y, hy⟩ : ∃ y, y = fullL 121 := ⟨_, rfl⟩
  obtain ⟨z, hz⟩ : ∃ z, z = fullL 122 := ⟨_, rfl⟩
  rw [← hx] at F120
  rw [← hy] at F121
  rw [← hz] at F122
  have HL : Hid (x.length = 128 ∧ y.length = 128 ∧ z.length = 128) := Lib.hid ⟨hx ▸ fullL_len _, hy ▸ fullL_len _, hz ▸ fullL_len _⟩
  clear hx hy hz
  obtain ⟨t, ht⟩ : ∃ t, t = tornL z y := ⟨_, rfl⟩
  have HT : Hid (t.length = 128 ∧ t = tornL z y) := Lib.hid ⟨by rw [ht]; exact tornL_len HL.out.2.2 HL.out.2.1, ht⟩
  have FT : ∀ w, Calls Try.prog 14 #[av z, av y] w fun e w' => e = .returned (av t) ∧ Fr (fun _ => False) w w' := fun w => ht ▸ rtorn_any w HL.out.2.2 HL.out.2.1
  clear ht
  have HP0 := Lib.hid (And.intro (Blk.new w 3 #[.int .i64 1, .int .i64 4]) ((Fr.refl (fun _ => False) w).alloc (.cells #[.int .i64 1, .int .i64 4] 3)))
  go_enter Try.func5, Try.ntmps5
  go_wp2_with fail
  generalize w.alloc (.cells #[.int .i64 1, .int .i64 4] 3) = w1 at *
  refine (F121 _).mono ?_
  rintro e w2 ⟨rfl, f2⟩
  go_wp2_with fail
  refine (F122 _).mono ?_
  rintro e w3 ⟨rfl, f3⟩
  go_wp2_with fail
  refine (F121 _).mono ?_
  rintro e w4 ⟨rfl, f4⟩
  go_wp2_with fail
  refine (FT _).mono ?_
  rintro e w5 ⟨rfl, f5⟩
  have f15 := ((f2.trans f3 (fun _ _ q => q)).trans f4 (fun _ _ q => q)).trans f5 (fun _ _ q => q)
  go_wp2_with (refine wpList_build_two rfl _ _ rfl HL.out.2.1 HT.out.1 rfl rfl ?_)
  have f16 := f15.alloc (.cells (cellsB (y ++ t)).toArray 31)
  have HQ := Lib.hid (And.intro (HP0.out.1.keep f16 (fun q => q)) (And.intro (Blk.new w5 31 (cellsB (y ++ t)).toArray) (HP0.out.2.trans f16 (fun _ _ q => q))))
  clear f2 f3 f4 f5 f15 f16 HP0
  generalize w5.alloc (.cells (cellsB (y ++ t)).toArray 31) = w6 at *
  obtain ⟨T, hT⟩ : ∃ T, T = w5.heap.size := ⟨_, rfl⟩
  rw [← hT] at HQ ⊢
  obtain ⟨P0, hP0⟩ : ∃ P0, P0 = w.heap.size := ⟨_, rfl⟩
  rw [← hP0] at HQ ⊢
  clear hT hP0
  go_loopw [3] (fun s wr => ∃ k : Nat, s = .int .i64 k ∧ k ≤ 2 ∧ Hid (Blk wr P0 3 #[.int .i64 1, .int .i64 4] ∧ Blk wr T 31 (cellsB (y ++ t)).toArray ∧ Fr (fun _ => False) w wr)) (fun s _ => 2 - (intOf s).toNat)
  case atStart => exact ⟨0, rfl, by omega, HQ⟩
  case round =>
    obtain ⟨k, rfl, hk, HR⟩ := hrel
    clear HQ
    have hk' : k = 0 ∨ k = 1 ∨ k = 2 := by omega
    clear hk
    rcases hk' with rfl | rfl | rfl
    · have hcp := HR.out.1.cell 0
      simp at hcp
      go_wp2_with fail
      refine (knew_any _).mono ?_
      rintro e wa ⟨rfl, ha, fa⟩
      go_wp2_with fail
      refine (F120 _).mono ?_
      rintro e wb ⟨rfl, fb⟩
      have hb := ha.keep fb
      go_wp2_with fail
      refine (kwrite_any hb HL.out.1 (by simp)).mono ?_
      rintro e wc ⟨rfl, hc, fc⟩
      go_wp2_with fail
      refine (kflush_any hc).mono ?_
      rintro e wd ⟨rfl, hd, fd⟩
      go_wp2_with fail
      refine (F121 _).mono ?_
      rintro e we ⟨rfl, fe⟩
      have he := hd.keep fe
      go_wp2_with fail
      refine (kwrite_any he HL.out.2.1 (by simp)).mono ?_
      rintro e wf ⟨rfl, hf, ff⟩
      go_wp2_with fail
      refine (F122 _).mono ?_
      rintro e wg ⟨rfl, fg⟩
      have hg := hf.keep fg
      go_wp2_with fail
      refine (kwrite_any hg HL.out.2.2 (by simp)).mono ?_
      rintro e wh ⟨rfl, hh, fh⟩
      have hh' : KdAt wh wr.heap.size (wr.heap.size + 1 + 1) z [x, y, z] := by simpa using hh
      have fah : Fr (fun b => wr.heap.size ≤ b) wr wh := ((((((((fa.mono (fun _ _ q => q.elim)).trans (fb.mono (fun _ _ q => q.elim)) (fun _ _ q => q)).trans fc (fun _ _ q => q)).trans fd (fun _ _ q => q)).trans (fe.mono (fun _ _ q => q.elim)) (fun _ _ q => q)).trans ff (fun _ _ q => q)).trans (fg.mono (fun _ _ q => q.elim)) (fun _ _ q => q)).trans fh (fun _ _ q => q))
      have hcp' : wh.cell? ⟨P0, 0, none⟩ = some (.int .i64 1) := (fah.cell (p := ⟨P0, 0, none⟩) HR.out.1.lt (fun q => by have := HR.out.1.lt; have q' : wr.heap.size ≤ P0 := q; omega)).trans hcp
      clear ha fa fb hb hc fc hd fd fe he hf ff fg hg hh fh hcp
      go_wp2_with fail
      refine (kcrash_any hh' (by simp) (by simp) 1).mono ?_
      rintro e wi ⟨rfl, hi, fi⟩
      have hi' : KdAt wi wr.heap.size (wr.heap.size + 1 + 1) y [] := by
        have e1 := left_1 x y z
        have e2 : ([x, y, z] : List (List UInt8)).length = 3 := rfl
        rw [e2, e1] at hi
        exact hi
      have fri : Fr (fun b => wr.heap.size ≤ b) wr wi := (fah.alloc _).trans fi (fun _ _ q => q)
      clear hi fi fah hcp'
      go_wp2_with fail
      refine (kread_any hi').mono ?_
      rintro e wj ⟨rfl, fj⟩
      have frj := fri.trans (fj.mono (G := fun b => wr.heap.size ≤ b) (fun _ _ q => q.elim)) (fun _ _ q => q)
      have hbn := Blk.new wj 31 (cellsB (nought 128)).toArray
      go_wp2_with (first
        | (refine wpList_zero rfl 31 rfl zeroSector ?_)
        | (refine wpList_store_mid rfl 31 _ _ rfl wj.heap.size 0 (cellsB y).toArray rfl rfl (hbn.there (by simp [cellsB_len, nought_len, HL.out.2.1])) (by rw [infoSector]; simp [cellsB_len, HL.out.2.1]) (all_oneCell_toArray (cellsB_one _)) ?_))
      have hbw := hbn.over (o := 0) (m := y) (by rw [nought_len, HL.out.2.1]; omega)
      rw [patch_all (by rw [nought_len, HL.out.2.1])] at hbw
      have fry : Fr (fun b => wr.heap.size ≤ b) wr ((wj.alloc (.cells (cellsB (nought 128)).toArray 31)).setCells wj.heap.size 0 (cellsB y)) := Fr.setCells (.inr (frj.size)) (frj.alloc _)
      generalize (wj.alloc (.cells (cellsB (nought 128)).toArray 31)).setCells wj.heap.size 0 (cellsB y) = wY at *
      have hbT := HR.out.2.1.keep fry (by have := HR.out.2.1.lt; omega)
      have hbP := HR.out.1.keep fry (by have := HR.out.1.lt; omega)
      have HN := Lib.hid (And.intro hbP (And.intro hbT (HR.out.2.2.trans fry (fun j hj q => by have := HR.out.2.2.size; omega))))
      have HC : Hid ((∀ w', Fr (fun _ => False) wY w' → w'.rangeAt wj.heap.size 0 (cellsB y)) ∧ (∀ w', Fr (fun _ => False) wY w' → w'.rangeAt T 0 (cellsB y))) := Lib.hid ⟨fun w' f => sec_range HL.out.2.1 (hbw.keep f (fun q => q)), fun w' f => by
        have := (hbT.keep f (fun q => q)).range 0 128
        have e : ((y ++ t).drop 0).take 128 = y := by first | (simp [HL.out.2.1, HT.out.1]; done) | (rw [List.drop_left' HL.out.2.1, List.take_of_length_le (Nat.le_of_eq HT.out.1)])
        rwa [e] at this⟩
      have hneq : ∀ w, (binOp .neq 31 (.agg (cellsB y).toArray) (.agg (cellsB y).toArray)).run Try.prog w = .ok (.bool false) w := fun w => by
        have := sec_neq y y HL.out.2.1 HL.out.2.1 w
        simpa using this
      have hu := Try.underlying31
      have hsw : (Try.prog.info? 31).map (·.size) = some (cellsB y).length := by rw [infoSector, cellsB_len, HL.out.2.1]
      have hcl : (cellsB y).length = 128 := by rw [cellsB_len, HL.out.2.1]
      have hone := cellsB_one y
      clear hbn hbw fry hbT hbP frj fj fri hi'
      go_wp2_with fail
      refine wp_region_held_drew (S := fun w' => Fr (fun _ => False) wY w') (by kernel_rfl) ((Fr.refl _ _).drew) (fun hS0 => ?_)
      refine anyH_take 0 62 (.int .i64 0) rfl rfl (by kernel_rfl) (by kernel_rfl) (by kernel_rfl) (fun _ _ _ h => h) (.inl ⟨by rfl, fun w'' hS => by go_simp⟩) hS0 ?_
      (simp only [List.setIfInBounds_toArray, List.set_cons_zero, List.set_cons_succ])
      refine anyH_take 1 63 (.bool false) rfl rfl (by kernel_rfl) (by kernel_rfl) (by kernel_rfl) (fun _ _ _ h => h) (.inl ⟨by rfl, fun w'' hS => by go_simp⟩) hS0 ?_
      (simp only [List.setIfInBounds_toArray, List.set_cons_zero, List.set_cons_succ])
      refine anyH_take 2 64 (.bool false) rfl rfl (by kernel_rfl) (by kernel_rfl) (by kernel_rfl) (fun _ _ _ h => h) (.inl ⟨by rfl, fun w'' hS => by go_simp⟩) hS0 ?_
      (simp only [List.setIfInBounds_toArray, List.set_cons_zero, List.set_cons_succ])
      refine anyH_take 3 65 (.agg (cellsB y).toArray) rfl rfl (by kernel_rfl) (by kernel_rfl) (by kernel_rfl) (fun _ _ _ h => h) (yieldsIf_load_mid (by rfl) _ _ rfl _ _ rfl _ _ (fun w' f => HC.out.1 w' f) hu rfl hsw) hS0 ?_
      (simp only [List.setIfInBounds_toArray, List.set_cons_zero, List.set_cons_succ])
      refine anyH_take 4 66 (.slice (some ⟨T, 0, none⟩) 2 2) rfl rfl (by kernel_rfl) (by kernel_rfl) (by kernel_rfl) (fun _ _ _ h => h) (.inl ⟨by rfl, fun w'' hS => by go_simp⟩) hS0 ?_
      (simp only [List.setIfInBounds_toArray, List.set_cons_zero, List.set_cons_succ])
      refine anyH_take 5 67 (.int .i64 0) rfl rfl (by kernel_rfl) (by kernel_rfl) (by kernel_rfl) (fun _ _ _ h => h) (.inl ⟨by rfl, fun w'' hS => by go_simp⟩) hS0 ?_
      (simp only [List.setIfInBounds_toArray, List.set_cons_zero, List.set_cons_succ])
      refine anyH_take 6 68 (.pointer (some ⟨T, 0, none⟩)) rfl rfl (by kernel_rfl) (by kernel_rfl) (by kernel_rfl) (fun _ _ _ h => h) (.inl ⟨by rfl, fun w'' hS => by go_simp⟩) hS0 ?_
      (simp only [List.setIfInBounds_toArray, List.set_cons_zero, List.set_cons_succ])
      refine anyH_take 7 69 (.agg (cellsB y).toArray) rfl rfl (by kernel_rfl) (by kernel_rfl) (by kernel_rfl) (fun _ _ _ h => h) (yieldsIf_load_mid (by rfl) _ _ rfl _ _ rfl _ _ (fun w' f => HC.out.2 w' f) hu rfl hsw) hS0 ?_
      (simp only [List.setIfInBounds_toArray, List.set_cons_zero, List.set_cons_succ])
      refine anyH_take 8 70 (.bool false) rfl rfl (by kernel_rfl) (by kernel_rfl) (by kernel_rfl) (fun _ _ _ h => h) (.inl ⟨by rfl, fun w'' hS => by go_simp⟩) hS0 ?_
      (simp only [List.setIfInBounds_toArray, List.set_cons_zero, List.set_cons_succ])
      refine anyH_take 9 71 (.bool false) rfl rfl (by kernel_rfl) (by kernel_rfl) (by kernel_rfl) (fun _ _ _ h => h) (.inl ⟨by rfl, fun w'' hS => by go_simp⟩) hS0 ?_
      (simp only [List.setIfInBounds_toArray, List.set_cons_zero, List.set_cons_succ])
      refine wpAnyH_done (by kernel_rfl) ?_ _
      clear hu hsw hcl hone hneq
      go_wp2_with fail
      exact ⟨⟨1, rfl, by omega, Lib.hid ⟨HN.out.1, HN.out.2.1, HN.out.2.2.drew⟩⟩, by simp [intOf]⟩
    · have hcp := HR.out.1.cell 1
      simp at hcp
      go_wp2_with fail
      refine (knew_any _).mono ?_
      rintro e wa ⟨rfl, ha, fa⟩
      go_wp2_with fail
      refine (F120 _).mono ?_
      rintro e wb ⟨rfl, fb⟩
      have hb := ha.keep fb
      go_wp2_with fail
      refine (kwrite_any hb HL.out.1 (by simp)).mono ?_
      rintro e wc ⟨rfl, hc, fc⟩
      go_wp2_with fail
      refine (kflush_any hc).mono ?_
      rintro e wd ⟨rfl, hd, fd⟩
      go_wp2_with fail
      refine (F121 _).mono ?_
      rintro e we ⟨rfl, fe⟩
      have he := hd.keep fe
      go_wp2_with fail
      refine (kwrite_any he HL.out.2.1 (by simp)).mono ?_
      rintro e wf ⟨rfl, hf, ff⟩
      go_wp2_with fail
      refine (F122 _).mono ?_
      rintro e wg ⟨rfl, fg⟩
      have hg := hf.keep fg
      go_wp2_with fail
      refine (kwrite_any hg HL.out.2.2 (by simp)).mono ?_
      rintro e wh ⟨rfl, hh, fh⟩
      have hh' : KdAt wh wr.heap.size (wr.heap.size + 1 + 1) z [x, y, z] := by simpa using hh
      have fah : Fr (fun b => wr.heap.size ≤ b) wr wh := ((((((((fa.mono (fun _ _ q => q.elim)).trans (fb.mono (fun _ _ q => q.elim)) (fun _ _ q => q)).trans fc (fun _ _ q => q)).trans fd (fun _ _ q => q)).trans (fe.mono (fun _ _ q => q.elim)) (fun _ _ q => q)).trans ff (fun _ _ q => q)).trans (fg.mono (fun _ _ q => q.elim)) (fun _ _ q => q)).trans fh (fun _ _ q => q))
      have hcp' : wh.cell? ⟨P0, 1, none⟩ = some (.int .i64 4) := (fah.cell (p := ⟨P0, 1, none⟩) HR.out.1.lt (fun q => by have := HR.out.1.lt; have q' : wr.heap.size ≤ P0 := q; omega)).trans hcp
      clear ha fa fb hb hc fc hd fd fe he hf ff fg hg hh fh hcp
      go_wp2_with fail
      refine (kcrash_any hh' (by simp) (by simp) 4).mono ?_
      rintro e wi ⟨rfl, hi, fi⟩
      have hi' : KdAt wi wr.heap.size (wr.heap.size + 1 + 1) t [] := by
        have e1 := left_4 x y z
        have e2 : ([x, y, z] : List (List UInt8)).length = 3 := rfl
        rw [e2, e1] at hi
        rw [HT.out.2]; exact hi
      have fri : Fr (fun b => wr.heap.size ≤ b) wr wi := (fah.alloc _).trans fi (fun _ _ q => q)
      clear hi fi fah hcp'
      go_wp2_with fail
      refine (kread_any hi').mono ?_
      rintro e wj ⟨rfl, fj⟩
      have frj := fri.trans (fj.mono (G := fun b => wr.heap.size ≤ b) (fun _ _ q => q.elim)) (fun _ _ q => q)
      have hbn := Blk.new wj 31 (cellsB (nought 128)).toArray
      go_wp2_with (first
        | (refine wpList_zero rfl 31 rfl zeroSector ?_)
        | (refine wpList_store_mid rfl 31 _ _ rfl wj.heap.size 0 (cellsB t).toArray rfl rfl (hbn.there (by simp [cellsB_len, nought_len, HT.out.1])) (by rw [infoSector]; simp [cellsB_len, HT.out.1]) (all_oneCell_toArray (cellsB_one _)) ?_))
      have hbw := hbn.over (o := 0) (m := t) (by rw [nought_len, HT.out.1]; omega)
      rw [patch_all (by rw [nought_len, HT.out.1])] at hbw
      have fry : Fr (fun b => wr.heap.size ≤ b) wr ((wj.alloc (.cells (cellsB (nought 128)).toArray 31)).setCells wj.heap.size 0 (cellsB t)) := Fr.setCells (.inr (frj.size)) (frj.alloc _)
      generalize (wj.alloc (.cells (cellsB (nought 128)).toArray 31)).setCells wj.heap.size 0 (cellsB t) = wY at *
      have hbT := HR.out.2.1.keep fry (by have := HR.out.2.1.lt; omega)
      have hbP := HR.out.1.keep fry (by have := HR.out.1.lt; omega)
      have HN := Lib.hid (And.intro hbP (And.intro hbT (HR.out.2.2.trans fry (fun j hj q => by have := HR.out.2.2.size; omega))))
      have HC : Hid ((∀ w', Fr (fun _ => False) wY w' → w'.rangeAt wj.heap.size 0 (cellsB t)) ∧ (∀ w', Fr (fun _ => False) wY w' → w'.rangeAt T 128 (cellsB t))) := Lib.hid ⟨fun w' f => sec_range HT.out.1 (hbw.keep f (fun q => q)), fun w' f => by
        have := (hbT.keep f (fun q => q)).range 128 128
        have e : ((y ++ t).drop 128).take 128 = t := by first | (simp [HL.out.2.1, HT.out.1]; done) | (rw [List.drop_left' HL.out.2.1, List.take_of_length_le (Nat.le_of_eq HT.out.1)])
        rwa [e] at this⟩
      have hneq : ∀ w, (binOp .neq 31 (.agg (cellsB t).toArray) (.agg (cellsB t).toArray)).run Try.prog w = .ok (.bool false) w := fun w => by
        have := sec_neq t t HT.out.1 HT.out.1 w
        simpa using this
      have hu := Try.underlying31
      have hsw : (Try.prog.info? 31).map (·.size) = some (cellsB t).length := by rw [infoSector, cellsB_len, HT.out.1]
      have hcl : (cellsB t).length = 128 := by rw [cellsB_len, HT.out.1]
      have hone := cellsB_one t
      clear hbn hbw fry hbT hbP frj fj fri hi'
      go_wp2_with fail
      refine wp_region_held_drew (S := fun w' => Fr (fun _ => False) wY w') (by kernel_rfl) ((Fr.refl _ _).drew) (fun hS0 => ?_)
      refine anyH_take 0 62 (.int .i64 0) rfl rfl (by kernel_rfl) (by kernel_rfl) (by kernel_rfl) (fun _ _ _ h => h) (.inl ⟨by rfl, fun w'' hS => by go_simp⟩) hS0 ?_
      (simp only [List.setIfInBounds_toArray, List.set_cons_zero, List.set_cons_succ])
      refine anyH_take 1 63 (.bool false) rfl rfl (by kernel_rfl) (by kernel_rfl) (by kernel_rfl) (fun _ _ _ h => h) (.inl ⟨by rfl, fun w'' hS => by go_simp⟩) hS0 ?_
      (simp only [List.setIfInBounds_toArray, List.set_cons_zero, List.set_cons_succ])
      refine anyH_take 2 64 (.bool false) rfl rfl (by kernel_rfl) (by kernel_rfl) (by kernel_rfl) (fun _ _ _ h => h) (.inl ⟨by rfl, fun w'' hS => by go_simp⟩) hS0 ?_
      (simp only [List.setIfInBounds_toArray, List.set_cons_zero, List.set_cons_succ])
      refine anyH_take 3 65 (.agg (cellsB t).toArray) rfl rfl (by kernel_rfl) (by kernel_rfl) (by kernel_rfl) (fun _ _ _ h => h) (yieldsIf_load_mid (by rfl) _ _ rfl _ _ rfl _ _ (fun w' f => HC.out.1 w' f) hu rfl hsw) hS0 ?_
      (simp only [List.setIfInBounds_toArray, List.set_cons_zero, List.set_cons_succ])
      refine anyH_take 4 66 (.slice (some ⟨T, 0, none⟩) 2 2) rfl rfl (by kernel_rfl) (by kernel_rfl) (by kernel_rfl) (fun _ _ _ h => h) (.inl ⟨by rfl, fun w'' hS => by go_simp⟩) hS0 ?_
      (simp only [List.setIfInBounds_toArray, List.set_cons_zero, List.set_cons_succ])
      refine anyH_take 5 67 (.int .i64 1) rfl rfl (by kernel_rfl) (by kernel_rfl) (by kernel_rfl) (fun _ _ _ h => h) (.inl ⟨by rfl, fun w'' hS => by go_simp⟩) hS0 ?_
      (simp only [List.setIfInBounds_toArray, List.set_cons_zero, List.set_cons_succ])
      refine anyH_take 6 68 (.pointer (some ⟨T, 128, none⟩)) rfl rfl (by kernel_rfl) (by kernel_rfl) (by kernel_rfl) (fun _ _ _ h => h) (.inl ⟨by rfl, fun w'' hS => by go_simp⟩) hS0 ?_
      (simp only [List.setIfInBounds_toArray, List.set_cons_zero, List.set_cons_succ])
      refine anyH_take 7 69 (.agg (cellsB t).toArray) rfl rfl (by kernel_rfl) (by kernel_rfl) (by kernel_rfl) (fun _ _ _ h => h) (yieldsIf_load_mid (by rfl) _ _ rfl _ _ rfl _ _ (fun w' f => HC.out.2 w' f) hu rfl hsw) hS0 ?_
      (simp only [List.setIfInBounds_toArray, List.set_cons_zero, List.set_cons_succ])
      refine anyH_take 8 70 (.bool false) rfl rfl (by kernel_rfl) (by kernel_rfl) (by kernel_rfl) (fun _ _ _ h => h) (.inl ⟨by rfl, fun w'' hS => by go_simp⟩) hS0 ?_
      (simp only [List.setIfInBounds_toArray, List.set_cons_zero, List.set_cons_succ])
      refine anyH_take 9 71 (.bool false) rfl rfl (by kernel_rfl) (by kernel_rfl) (by kernel_rfl) (fun _ _ _ h => h) (.inl ⟨by rfl, fun w'' hS => by go_simp⟩) hS0 ?_
      (simp only [List.setIfInBounds_toArray, List.set_cons_zero, List.set_cons_succ])
      refine wpAnyH_done (by kernel_rfl) ?_ _
      clear hu hsw hcl hone hneq
      go_wp2_with fail
      exact ⟨⟨2, rfl, by omega, Lib.hid ⟨HN.out.1, HN.out.2.1, HN.out.2.2.drew⟩⟩, by simp [intOf]⟩
    · go_wp2_with fail
      go_ret
      exact ⟨rfl, HR.out.2.2⟩
end Go.Proofs.Ytiobmejnamdneaa
