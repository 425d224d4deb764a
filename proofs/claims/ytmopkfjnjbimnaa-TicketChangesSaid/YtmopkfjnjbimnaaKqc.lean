/- ticket's locator: parts that are put. -/
import Derived.Test.YtmopkfjnjbimnaaKqb
import Derived.Lib.BufferWrite
namespace Go.Proofs.Ytmopkfjnjbimnaa
open Go.RowKit

theorem be_one (c : UInt8) : be c.toNat 1 = [c] := by
  unfold be
  simp
theorem info6 : (Try.prog.info? 148).map (·.size) = some 6 := by kernel_rfl
theorem u8_in (c : UInt8) : c.toNat < 256 ∧ IntKind.u64.wrap ((c.toNat : Nat) : Int) = ((c.toNat : Nat) : Int) ∧ IntKind.u8.wrap ((c.toNat : Nat) : Int) = ((c.toNat : Nat) : Int) := by
  have h : c.toNat < 256 := c.toNat_lt
  refine ⟨h, wrapU_pos (by omega) (by omega), ?_⟩
  simp [IntKind.wrap, IntKind.signed, IntKind.bits]
  omega
theorem six_of {s : ByteArray} (h : s.size = 6) : ∃ c0 c1 c2 c3 c4 c5, s = ⟨#[c0, c1, c2, c3, c4, c5]⟩ := by
  obtain ⟨a⟩ := s
  obtain ⟨l⟩ := a
  match l, h with
  | [c0, c1, c2, c3, c4, c5], _ => exact ⟨c0, c1, c2, c3, c4, c5, rfl⟩
theorem run_copy_op2 {P : Program} {o : Oper} {a : Act} {w w' : World} {v : Value} (d s : Operand) (t t' : TypeId) (ho : o.op = .call { callee := .builtin .copy, args := #[d, s], argTypes := #[t, t'] }) {dv sv : Value} (hd : a.eval d = dv) (hs : a.eval s = sv)
    (h : (Builtin.copy_ #[t, t'] o.type #[dv, sv]).run P w = .ok v w') : (execOp a.eval o).run P w = .ok (.value v) w' := by
  unfold execOp
  simp only [ho, resolve, invoke, builtin, Sem.run_bind, Sem.run_pure, Result.andThen_ok, List.map_toArray, List.map_cons, List.map_nil, hd, hs, h]
theorem rd_blk6 {w : World} {g : Nat} {c0 c1 c2 c3 c4 c5 : UInt8} {T : TypeId} (h : Blk w g T #[.int .u8 (c0.toNat : Nat), .int .u8 (c1.toNat : Nat), .int .u8 (c2.toNat : Nat), .int .u8 (c3.toNat : Nat), .int .u8 (c4.toNat : Nat), .int .u8 (c5.toNat : Nat)]) : Rd w (some ⟨g, 0, none⟩) 6 [c0, c1, c2, c3, c4, c5] := by
  refine ⟨rfl, fun _ => ⟨_, rfl, fun j u hj => ?_⟩⟩
  rw [add_plain, Nat.zero_add, h.cell]
  have hlt : j < 6 := (List.getElem?_eq_some_iff.1 hj).1
  have hcase : j = 0 ∨ j = 1 ∨ j = 2 ∨ j = 3 ∨ j = 4 ∨ j = 5 := by omega
  rcases hcase with rfl | rfl | rfl | rfl | rfl | rfl <;> (simp at hj; subst hj; rfl)
theorem idx6_0 (c0 c1 c2 c3 c4 c5 : UInt8) (W : World) : (Instr.index 148 (.agg #[.int .u8 (c0.toNat : Nat), .int .u8 (c1.toNat : Nat), .int .u8 (c2.toNat : Nat), .int .u8 (c3.toNat : Nat), .int .u8 (c4.toNat : Nat), .int .u8 (c5.toNat : Nat)]) (.int .i64 0)).run Try.prog W = .ok (.int .u8 (c0.toNat : Nat)) W := by
  have h1 := Try.underlying148
  obtain ⟨i0, hi, hz0, hz1, hz2⟩ := info_parts infoU8
  have hp : (Go.part 5 #[.int .u8 (c0.toNat : Nat), .int .u8 (c1.toNat : Nat), .int .u8 (c2.toNat : Nat), .int .u8 (c3.toNat : Nat), .int .u8 (c4.toNat : Nat), .int .u8 (c5.toNat : Nat)] 0).run Try.prog W = .ok (.int .u8 (c0.toNat : Nat)) W := run_part_plain W (by kernel_rfl) rfl
  simp [Instr.index, asIntOf, run_underlying h1, sizeOf, typeInfo, hi, hz1, hp, Result.andThen]
theorem idx6_1 (c0 c1 c2 c3 c4 c5 : UInt8) (W : World) : (Instr.index 148 (.agg #[.int .u8 (c0.toNat : Nat), .int .u8 (c1.toNat : Nat), .int .u8 (c2.toNat : Nat), .int .u8 (c3.toNat : Nat), .int .u8 (c4.toNat : Nat), .int .u8 (c5.toNat : Nat)]) (.int .i64 1)).run Try.prog W = .ok (.int .u8 (c1.toNat : Nat)) W := by
  have h1 := Try.underlying148
  obtain ⟨i0, hi, hz0, hz1, hz2⟩ := info_parts infoU8
  have hp : (Go.part 5 #[.int .u8 (c0.toNat : Nat), .int .u8 (c1.toNat : Nat), .int .u8 (c2.toNat : Nat), .int .u8 (c3.toNat : Nat), .int .u8 (c4.toNat : Nat), .int .u8 (c5.toNat : Nat)] 1).run Try.prog W = .ok (.int .u8 (c1.toNat : Nat)) W := run_part_plain W (by kernel_rfl) rfl
  simp [Instr.index, asIntOf, run_underlying h1, sizeOf, typeInfo, hi, hz1, hp, Result.andThen]
theorem idx6_2 (c0 c1 c2 c3 c4 c5 : UInt8) (W : World) : (Instr.index 148 (.agg #[.int .u8 (c0.toNat : Nat), .int .u8 (c1.toNat : Nat), .int .u8 (c2.toNat : Nat), .int .u8 (c3.toNat : Nat), .int .u8 (c4.toNat : Nat), .int .u8 (c5.toNat : Nat)]) (.int .i64 2)).run Try.prog W = .ok (.int .u8 (c2.toNat : Nat)) W := by
  have h1 := Try.underlying148
  obtain ⟨i0, hi, hz0, hz1, hz2⟩ := info_parts infoU8
  have hp : (Go.part 5 #[.int .u8 (c0.toNat : Nat), .int .u8 (c1.toNat : Nat), .int .u8 (c2.toNat : Nat), .int .u8 (c3.toNat : Nat), .int .u8 (c4.toNat : Nat), .int .u8 (c5.toNat : Nat)] 2).run Try.prog W = .ok (.int .u8 (c2.toNat : Nat)) W := run_part_plain W (by kernel_rfl) rfl
  simp [Instr.index, asIntOf, run_underlying h1, sizeOf, typeInfo, hi, hz1, hp, Result.andThen]
theorem idx6_3 (c0 c1 c2 c3 c4 c5 : UInt8) (W : World) : (Instr.index 148 (.agg #[.int .u8 (c0.toNat : Nat), .int .u8 (c1.toNat : Nat), .int .u8 (c2.toNat : Nat), .int .u8 (c3.toNat : Nat), .int .u8 (c4.toNat : Nat), .int .u8 (c5.toNat : Nat)]) (.int .i64 3)).run Try.prog W = .ok (.int .u8 (c3.toNat : Nat)) W := by
  have h1 := Try.underlying148
  obtain ⟨i0, hi, hz0, hz1, hz2⟩ := info_parts infoU8
  have hp : (Go.part 5 #[.int .u8 (c0.toNat : Nat), .int .u8 (c1.toNat : Nat), .int .u8 (c2.toNat : Nat), .int .u8 (c3.toNat : Nat), .int .u8 (c4.toNat : Nat), .int .u8 (c5.toNat : Nat)] 3).run Try.prog W = .ok (.int .u8 (c3.toNat : Nat)) W := run_part_plain W (by kernel_rfl) rfl
  simp [Instr.index, asIntOf, run_underlying h1, sizeOf, typeInfo, hi, hz1, hp, Result.andThen]
theorem idx6_4 (c0 c1 c2 c3 c4 c5 : UInt8) (W : World) : (Instr.index 148 (.agg #[.int .u8 (c0.toNat : Nat), .int .u8 (c1.toNat : Nat), .int .u8 (c2.toNat : Nat), .int .u8 (c3.toNat : Nat), .int .u8 (c4.toNat : Nat), .int .u8 (c5.toNat : Nat)]) (.int .i64 4)).run Try.prog W = .ok (.int .u8 (c4.toNat : Nat)) W := by
  have h1 := Try.underlying148
  obtain ⟨i0, hi, hz0, hz1, hz2⟩ := info_parts infoU8
  have hp : (Go.part 5 #[.int .u8 (c0.toNat : Nat), .int .u8 (c1.toNat : Nat), .int .u8 (c2.toNat : Nat), .int .u8 (c3.toNat : Nat), .int .u8 (c4.toNat : Nat), .int .u8 (c5.toNat : Nat)] 4).run Try.prog W = .ok (.int .u8 (c4.toNat : Nat)) W := run_part_plain W (by kernel_rfl) rfl
  simp [Instr.index, asIntOf, run_underlying h1, sizeOf, typeInfo, hi, hz1, hp, Result.andThen]
theorem idx6_5 (c0 c1 c2 c3 c4 c5 : UInt8) (W : World) : (Instr.index 148 (.agg #[.int .u8 (c0.toNat : Nat), .int .u8 (c1.toNat : Nat), .int .u8 (c2.toNat : Nat), .int .u8 (c3.toNat : Nat), .int .u8 (c4.toNat : Nat), .int .u8 (c5.toNat : Nat)]) (.int .i64 5)).run Try.prog W = .ok (.int .u8 (c5.toNat : Nat)) W := by
  have h1 := Try.underlying148
  obtain ⟨i0, hi, hz0, hz1, hz2⟩ := info_parts infoU8
  have hp : (Go.part 5 #[.int .u8 (c0.toNat : Nat), .int .u8 (c1.toNat : Nat), .int .u8 (c2.toNat : Nat), .int .u8 (c3.toNat : Nat), .int .u8 (c4.toNat : Nat), .int .u8 (c5.toNat : Nat)] 5).run Try.prog W = .ok (.int .u8 (c5.toNat : Nat)) W := run_part_plain W (by kernel_rfl) rfl
  simp [Instr.index, asIntOf, run_underlying h1, sizeOf, typeInfo, hi, hz1, hp, Result.andThen]
set_option maxRecDepth 100000 in
set_option maxHeartbeats 8000000 in
theorem ploc_any {w : World} {gW : Nat} {l : List UInt8} (h : WP w gW l) {b off : Nat} {T : TypeId} {cs : Array Value} {s : ByteArray} (hb : Blk w b T cs) (hT : T ≠ 5) (hg : b ≠ gW) (hgw : gW < w.heap.size) (hc : cs[off]? = some (.string s)) (hs : s.size = 6) (hl : l.length ≤ 90000) :
    Calls Try.prog 67 #[.pointer (some ⟨b, off, none⟩), .func (.func 31) #[.pointer (some ⟨gW, 0, none⟩)] #[]] w fun e w' => e = .returned (.tuple #[]) ∧ WP w' gW (l ++ s.data.toList) ∧ St w w' gW := by
  obtain ⟨c0, c1, c2, c3, c4, c5, rfl⟩ := six_of hs
  obtain ⟨W0, hW0⟩ : ∃ W, W = w.alloc (.cells #[.int .u8 0, .int .u8 0, .int .u8 0, .int .u8 0, .int .u8 0, .int .u8 0] 148) := ⟨_, rfl⟩
  have HB0 : Hid (Fr (fun _ => False) w W0 ∧ Blk W0 w.heap.size 148 #[.int .u8 0, .int .u8 0, .int .u8 0, .int .u8 0, .int .u8 0, .int .u8 0]) := Lib.hid (by rw [hW0]; exact ⟨(Fr.refl _ w).alloc _, Blk.new w _ _⟩)
  have HB := Lib.hid (And.intro hb (And.intro hT (And.intro hg (And.intro hc hgw))))
  have hlt := hb.lt
  have hx0 : W0.cell? ⟨b, off, none⟩ = some (.string (⟨#[c0, c1, c2, c3, c4, c5]⟩ : ByteArray)) := cp_cell (hb.keep HB0.out.1 (fun q => q)) off hc
  have fd : Fr (fun _ => False) W0 W0.drew := (Fr.refl _ W0).drew
  have hrow := Go.Lib.run_copy_row_string (P := Try.prog) W0.drew 31 9 3 5 w.heap.size 0 6 6 (⟨#[c0, c1, c2, c3, c4, c5]⟩ : ByteArray) #[.int .u8 0, .int .u8 0, .int .u8 0, .int .u8 0, .int .u8 0, .int .u8 0] 148 Try.underlying31 (by kernel_rfl) (HB0.out.2.keep fd (fun q => q)) (Nat.le_refl 6) (Nat.le_refl 6)
  obtain ⟨W1, hW1⟩ : ∃ W, W = W0.drew.setRow w.heap.size #[.int .u8 (c0.toNat : Nat), .int .u8 (c1.toNat : Nat), .int .u8 (c2.toNat : Nat), .int .u8 (c3.toNat : Nat), .int .u8 (c4.toNat : Nat), .int .u8 (c5.toNat : Nat)] := ⟨_, rfl⟩
  have hrow2 : (Builtin.copy_ #[31, 9] 3 #[.slice (some ⟨w.heap.size, 0, none⟩) 6 6, .string (⟨#[c0, c1, c2, c3, c4, c5]⟩ : ByteArray)]).run Try.prog W0.drew = .ok (.int .i64 6) W1 := by
    rw [hW1]
    exact hrow
  have hs1 := blk_setRow (cs' := #[.int .u8 (c0.toNat : Nat), .int .u8 (c1.toNat : Nat), .int .u8 (c2.toNat : Nat), .int .u8 (c3.toNat : Nat), .int .u8 (c4.toNat : Nat), .int .u8 (c5.toNat : Nat)]) (HB0.out.2.keep fd (fun q => q))
  have HB1 : Hid (Fr (fun _ => False) w W1 ∧ Blk W1 w.heap.size 148 #[.int .u8 (c0.toNat : Nat), .int .u8 (c1.toNat : Nat), .int .u8 (c2.toNat : Nat), .int .u8 (c3.toNat : Nat), .int .u8 (c4.toNat : Nat), .int .u8 (c5.toNat : Nat)]) := Lib.hid (by
    rw [hW1]
    exact ⟨(HB0.out.1.trans fd (fun _ _ q => q)).trans hs1.2 (fun i hi q => by have h6 : i = w.heap.size := q; omega), hs1.1⟩)
  have hx1 : W1.cell? ⟨b, off, none⟩ = some (.string (⟨#[c0, c1, c2, c3, c4, c5]⟩ : ByteArray)) := cp_cell (hb.keep HB1.out.1 (fun q => q)) off hc
  have HX0 := Lib.hid hx0
  have HR := Lib.hid hrow2
  have HQ := Lib.hid hW0
  have HW : Hid (WP W1 gW (l ++ List.take 0 [c0, c1, c2, c3, c4, c5])) := Lib.hid (by simpa using h.keep0 HB1.out.1)
  have HL := Lib.hid hl
  have HX1 := Lib.hid hx1
  clear h hb hT hg hc hs hl hW0 hx0 hrow hrow2 hs1 hW1 fd hx1 hgw
  go_enter Try.func67, Try.ntmps67
  go_upto_region 1 with fail
  rw [← HQ.out]
  clear HQ
  refine wp_region_held_drew (S := fun w' => w'.cell? ⟨b, off, none⟩ = some (.string (⟨#[c0, c1, c2, c3, c4, c5]⟩ : ByteArray))) (by kernel_rfl) (by simpa using HX0.out) (fun hS0 => ?_)
  refine anyH_take 0 7 (.slice (some ⟨w.heap.size, 0, none⟩) 6 6) rfl rfl (by kernel_rfl) (by kernel_rfl) (by kernel_rfl) (fun _ _ _ h => h) (.inl ⟨by rfl, fun w'' hS => by go_simp⟩) hS0 ?_
  (simp only [List.setIfInBounds_toArray, List.set_cons_zero, List.set_cons_succ])
  refine anyH_take 1 8 (.pointer (some ⟨b, off, none⟩)) rfl rfl (by kernel_rfl) (by kernel_rfl) (by kernel_rfl) (fun _ _ _ h => h) (.inl ⟨by rfl, fun w'' hS => by go_simp⟩) hS0 ?_
  (simp only [List.setIfInBounds_toArray, List.set_cons_zero, List.set_cons_succ])
  refine anyH_take 2 9 (.pointer (some ⟨b, off, none⟩)) rfl rfl (by kernel_rfl) (by kernel_rfl) (by kernel_rfl) (fun _ _ _ h => h) (.inl ⟨by rfl, fun w'' hS => by go_simp⟩) hS0 ?_
  (simp only [List.setIfInBounds_toArray, List.set_cons_zero, List.set_cons_succ])
  refine anyH_take 3 10 (.string (⟨#[c0, c1, c2, c3, c4, c5]⟩ : ByteArray)) rfl rfl (by kernel_rfl) (by kernel_rfl) (by kernel_rfl) (fun _ _ _ h => h) (.inl ⟨by rfl, fun w'' hS => by have q0 := hS; go_simp⟩) hS0 ?_
  (simp only [List.setIfInBounds_toArray, List.set_cons_zero, List.set_cons_succ])
  have hS1 := HX1.out
  refine anyH_value 4 11 (.int .i64 6) W1 (by kernel_rfl) rfl rfl (by rfl) (run_copy_op2 (.tmp 7) (.tmp 10) 31 9 rfl rfl rfl HR.out) (hS1) ?_
  (simp only [List.setIfInBounds_toArray, List.set_cons_zero, List.set_cons_succ])
  refine wpAnyH_done (by kernel_rfl) ?_ _
  clear hS0 hS1 hlt
  go_wp2_with (refine wpList_load_mid rfl 148 (.tmp 4) rfl w.heap.size 0 rfl (#[.int .u8 (c0.toNat : Nat), .int .u8 (c1.toNat : Nat), .int .u8 (c2.toNat : Nat), .int .u8 (c3.toNat : Nat), .int .u8 (c4.toNat : Nat), .int .u8 (c5.toNat : Nat)]).toList _ (blk_range HB1.out.2) Try.underlying148 rfl info6 ?_)
  have HS0 := Lib.hid (St.refl W1 gW)
  go_loopw [13] (fun x wr => ∃ k : Nat, x = .int .i64 k ∧ k ≤ 6 ∧ Hid (WP wr gW (l ++ List.take k [c0, c1, c2, c3, c4, c5])) ∧ Hid (St W1 wr gW)) (fun x _ => 6 - (intOf x).toNat)
  case atStart => exact ⟨0, rfl, Nat.zero_le _, HW, HS0⟩
  case round =>
    clear HW HS0
    obtain ⟨k, rfl, hk, HW, HS⟩ := hrel
    have hbx := HS.out.keep w.heap.size 148 _ (by decide) (by have := HB.out.2.2.2.2; omega) HB1.out.2
    have hcase : k = 0 ∨ k = 1 ∨ k = 2 ∨ k = 3 ∨ k = 4 ∨ k = 5 ∨ k = 6 := by omega
    clear hk
    rcases hcase with rfl | rfl | rfl | rfl | rfl | rfl | rfl
    · obtain ⟨u1, u2, u3⟩ := u8_in c0
      have HP := Lib.hid (pput_any HW.out c0.toNat 1 (by omega) (by unfold numOk; simp; omega) (by have := HL.out; simp; omega))
      have HBX := Lib.hid hbx
      clear hbx u1
      have hix := fun W => idx6_0 c0 c1 c2 c3 c4 c5 W
      go_wp2_with fail
      refine HP.out.mono ?_
      rintro e w1 ⟨rfl, h1, h2⟩
      have hb2 := h2.keep w.heap.size 148 _ (by decide) (by have := HB.out.2.2.2.2; omega) HBX.out
      have hy : w1.cell? ⟨w.heap.size, 0, none⟩ = some (.int .u8 (c0.toNat : Nat)) := cp_cell hb2 0 rfl
      have hf := hb2.frozen 0
      have HY := Lib.hid hy
      have HWN : Hid (WP w1 gW (l ++ List.take 1 [c0, c1, c2, c3, c4, c5])) := Lib.hid (by
        have h3 := h1
        rw [show (1 : Int).toNat = 1 from rfl, be_one, List.append_assoc] at h3
        exact h3)
      have HSN := Lib.hid (HS.out.trans h2)
      clear h1 h2 hb2
      go_wp2_with fail
      refine ⟨⟨1, by go_num, by omega, Lib.hid (by rw [setCell_self HY.out]; exact HWN.out), Lib.hid (by rw [setCell_self HY.out]; exact HSN.out)⟩, by simp [intOf]⟩
    · obtain ⟨u1, u2, u3⟩ := u8_in c1
      have HP := Lib.hid (pput_any HW.out c1.toNat 1 (by omega) (by unfold numOk; simp; omega) (by have := HL.out; simp; omega))
      have HBX := Lib.hid hbx
      clear hbx u1
      have hix := fun W => idx6_1 c0 c1 c2 c3 c4 c5 W
      go_wp2_with fail
      refine HP.out.mono ?_
      rintro e w1 ⟨rfl, h1, h2⟩
      have hb2 := h2.keep w.heap.size 148 _ (by decide) (by have := HB.out.2.2.2.2; omega) HBX.out
      have hy : w1.cell? ⟨w.heap.size, 1, none⟩ = some (.int .u8 (c1.toNat : Nat)) := cp_cell hb2 1 rfl
      have hf := hb2.frozen 1
      have HY := Lib.hid hy
      have HWN : Hid (WP w1 gW (l ++ List.take 2 [c0, c1, c2, c3, c4, c5])) := Lib.hid (by
        have h3 := h1
        rw [show (1 : Int).toNat = 1 from rfl, be_one, List.append_assoc] at h3
        exact h3)
      have HSN := Lib.hid (HS.out.trans h2)
      clear h1 h2 hb2
      go_wp2_with fail
      refine ⟨⟨2, by go_num, by omega, Lib.hid (by rw [setCell_self HY.out]; exact HWN.out), Lib.hid (by rw [setCell_self HY.out]; exact HSN.out)⟩, by simp [intOf]⟩
    · obtain ⟨u1, u2, u3⟩ := u8_in c2
      have HP := Lib.hid (pput_any HW.out c2.toNat 1 (by omega) (by unfold numOk; simp; omega) (by have := HL.out; simp; omega))
      have HBX := Lib.hid hbx
      clear hbx u1
      have hix := fun W => idx6_2 c0 c1 c2 c3 c4 c5 W
      go_wp2_with fail
      refine HP.out.mono ?_
      rintro e w1 ⟨rfl, h1, h2⟩
      have hb2 := h2.keep w.heap.size 148 _ (by decide) (by have := HB.out.2.2.2.2; omega) HBX.out
      have hy : w1.cell? ⟨w.heap.size, 2, none⟩ = some (.int .u8 (c2.toNat : Nat)) := cp_cell hb2 2 rfl
      have hf := hb2.frozen 2
      have HY := Lib.hid hy
      have HWN : Hid (WP w1 gW (l ++ List.take 3 [c0, c1, c2, c3, c4, c5])) := Lib.hid (by
        have h3 := h1
        rw [show (1 : Int).toNat = 1 from rfl, be_one, List.append_assoc] at h3
        exact h3)
      have HSN := Lib.hid (HS.out.trans h2)
      clear h1 h2 hb2
      go_wp2_with fail
      refine ⟨⟨3, by go_num, by omega, Lib.hid (by rw [setCell_self HY.out]; exact HWN.out), Lib.hid (by rw [setCell_self HY.out]; exact HSN.out)⟩, by simp [intOf]⟩
    · obtain ⟨u1, u2, u3⟩ := u8_in c3
      have HP := Lib.hid (pput_any HW.out c3.toNat 1 (by omega) (by unfold numOk; simp; omega) (by have := HL.out; simp; omega))
      have HBX := Lib.hid hbx
      clear hbx u1
      have hix := fun W => idx6_3 c0 c1 c2 c3 c4 c5 W
      go_wp2_with fail
      refine HP.out.mono ?_
      rintro e w1 ⟨rfl, h1, h2⟩
      have hb2 := h2.keep w.heap.size 148 _ (by decide) (by have := HB.out.2.2.2.2; omega) HBX.out
      have hy : w1.cell? ⟨w.heap.size, 3, none⟩ = some (.int .u8 (c3.toNat : Nat)) := cp_cell hb2 3 rfl
      have hf := hb2.frozen 3
      have HY := Lib.hid hy
      have HWN : Hid (WP w1 gW (l ++ List.take 4 [c0, c1, c2, c3, c4, c5])) := Lib.hid (by
        have h3 := h1
        rw [show (1 : Int).toNat = 1 from rfl, be_one, List.append_assoc] at h3
        exact h3)
      have HSN := Lib.hid (HS.out.trans h2)
      clear h1 h2 hb2
      go_wp2_with fail
      refine ⟨⟨4, by go_num, by omega, Lib.hid (by rw [setCell_self HY.out]; exact HWN.out), Lib.hid (by rw [setCell_self HY.out]; exact HSN.out)⟩, by simp [intOf]⟩
    · obtain ⟨u1, u2, u3⟩ := u8_in c4
      have HP := Lib.hid (pput_any HW.out c4.toNat 1 (by omega) (by unfold numOk; simp; omega) (by have := HL.out; simp; omega))
      have HBX := Lib.hid hbx
      clear hbx u1
      have hix := fun W => idx6_4 c0 c1 c2 c3 c4 c5 W
      go_wp2_with fail
      refine HP.out.mono ?_
      rintro e w1 ⟨rfl, h1, h2⟩
      have hb2 := h2.keep w.heap.size 148 _ (by decide) (by have := HB.out.2.2.2.2; omega) HBX.out
      have hy : w1.cell? ⟨w.heap.size, 4, none⟩ = some (.int .u8 (c4.toNat : Nat)) := cp_cell hb2 4 rfl
      have hf := hb2.frozen 4
      have HY := Lib.hid hy
      have HWN : Hid (WP w1 gW (l ++ List.take 5 [c0, c1, c2, c3, c4, c5])) := Lib.hid (by
        have h3 := h1
        rw [show (1 : Int).toNat = 1 from rfl, be_one, List.append_assoc] at h3
        exact h3)
      have HSN := Lib.hid (HS.out.trans h2)
      clear h1 h2 hb2
      go_wp2_with fail
      refine ⟨⟨5, by go_num, by omega, Lib.hid (by rw [setCell_self HY.out]; exact HWN.out), Lib.hid (by rw [setCell_self HY.out]; exact HSN.out)⟩, by simp [intOf]⟩
    · obtain ⟨u1, u2, u3⟩ := u8_in c5
      have HP := Lib.hid (pput_any HW.out c5.toNat 1 (by omega) (by unfold numOk; simp; omega) (by have := HL.out; simp; omega))
      have HBX := Lib.hid hbx
      clear hbx u1
      have hix := fun W => idx6_5 c0 c1 c2 c3 c4 c5 W
      go_wp2_with fail
      refine HP.out.mono ?_
      rintro e w1 ⟨rfl, h1, h2⟩
      have hb2 := h2.keep w.heap.size 148 _ (by decide) (by have := HB.out.2.2.2.2; omega) HBX.out
      have hy : w1.cell? ⟨w.heap.size, 5, none⟩ = some (.int .u8 (c5.toNat : Nat)) := cp_cell hb2 5 rfl
      have hf := hb2.frozen 5
      have HY := Lib.hid hy
      have HWN : Hid (WP w1 gW (l ++ List.take 6 [c0, c1, c2, c3, c4, c5])) := Lib.hid (by
        have h3 := h1
        rw [show (1 : Int).toNat = 1 from rfl, be_one, List.append_assoc] at h3
        exact h3)
      have HSN := Lib.hid (HS.out.trans h2)
      clear h1 h2 hb2
      go_wp2_with fail
      refine ⟨⟨6, by go_num, by omega, Lib.hid (by rw [setCell_self HY.out]; exact HWN.out), Lib.hid (by rw [setCell_self HY.out]; exact HSN.out)⟩, by simp [intOf]⟩
    · have hz : wr.cell? ⟨b, off, none⟩ = some (.string (⟨#[c0, c1, c2, c3, c4, c5]⟩ : ByteArray)) := by
        have h5 := HS.out.keep b T cs HB.out.2.1 HB.out.2.2.1 (HB.out.1.keep HB1.out.1 (fun q => q))
        exact cp_cell h5 off HB.out.2.2.2.1
      have hzf := (HS.out.keep b T cs HB.out.2.1 HB.out.2.2.1 (HB.out.1.keep HB1.out.1 (fun q => q))).frozen off
      have hcv := conv_string (P := Try.prog) (w := wr) 31 9 5 (A := some ⟨w.heap.size, 0, none⟩) (n := 6) (c := 6) (l := [c0, c1, c2, c3, c4, c5]) (rd_blk6 hbx) Try.underlying31 Try.underlying5 Try.underlying9
      have HZ := Lib.hid hz
      clear hbx
      go_wp2_with fail
      go_end0
      have h9 := setCell_self HZ.out
      rw [show (⟨[c0, c1, c2, c3, c4, c5].toArray⟩ : ByteArray) = (⟨#[c0, c1, c2, c3, c4, c5]⟩ : ByteArray) from rfl] at *
      rw [h9]
      exact ⟨rfl, HW.out, (St.of0 HB1.out.1).trans HS.out⟩
end Go.Proofs.Ytmopkfjnjbimnaa
