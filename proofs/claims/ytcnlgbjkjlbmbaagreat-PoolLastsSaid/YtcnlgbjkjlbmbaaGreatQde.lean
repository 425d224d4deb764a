/- couponlaw06: dead: of a pool that is dead all is ErrDead. -/
import Derived.Test.YtcnlgbjkjlbmbaaGreatQpu2
namespace Go.Proofs.YtcnlgbjkjlbmbaaGreat
open Go.RowKit

set_option maxRecDepth 100000 in
theorem build_pg1 (w : World) : (Instr.build 50 #[(0, .int .u8 1)]).run Tryz.prog w = .ok (av (1 :: nought 511)) w := by
 unfold Instr.build
 obtain ⟨i0, hi, hz0, hz1, hz2⟩ := info_parts infoU8
 have e : nought 512 = 0 :: nought 511 := rfl
 have hf : Instr.fill (fun i => some (i * 1, 1)) (av (nought 512)).cells [(0, .int .u8 1)] = some (cellsB (1 :: nought 511)).toArray := by
  rw [fill_cons (off := 0) (size := 1) rfl rfl (by simp [Value.cells, cellsB_len, nought_len])]
  rw [e]
  simp [Value.cells, Instr.fill, cellsB]
 rw [Sem.run_bind, zeroPg]
 simp [run_underlying Tryz.underlying50, sizeOf, typeInfo, hi, hz1]
 simp only [Nat.mul_one] at hf
 rw [hf]
 rfl
section
variable {ops : Array Oper} {o : Oper} {a : Act} {Q : Exit → Act → World → Prop}
theorem wpList_build_pg1 {rest : List Oper} {w : World} (hw : Region.wanted o (yielded ops a.tmps) = true) (hop : o.op = .build 50 #[(0, .const (.int .u8 1))])
 (hK : wpList Tryz.prog ops Q rest (a.put o.dst (av (1 :: nought 511))) w) : wpList Tryz.prog ops Q (o :: rest) a w := by
 refine BigFrame.wpList_want hw fun K hK' => ?_
 have hr := build_pg1 w
 unfold Oper.wp execOp
 simp only [hop, Array.map]
 simp [hr, Result.andThen, Act.eval]
 exact hK' _ _ hK
end
def PDx (w : World) (B p g z fr lb M1 M2 : Nat) (v : Value) (P : Nat → Prop) (d : DS) : Prop := PlB w p g z fr lb M1 M2 v true ∧ DT w B g d P ∧ ¬ P p
section
variable {w w' : World} {B p g z fr lb M1 M2 : Nat} {v : Value} {P : Nat → Prop} {d : DS}
theorem PDx.to (h : PDx w B p g z fr lb M1 M2 v P d) (f : Fr (fun b => b = p) w w') (h1 : PlB w' p g z fr lb M1 M2 v true) : PDx w' B p g z fr lb M1 M2 v P d := ⟨h1, h.2.1.keep' f (fun b hb e => h.2.2 (e ▸ hb)), h.2.2⟩
theorem PDx.new (h : PDx w B p g z fr lb M1 M2 v P d) (f : Fr (fun _ => False) w w') : PDx w' B p g z fr lb M1 M2 v P d := ⟨h.1.keep f (fun q => q), h.2.1.keep' f (fun _ _ q => q), h.2.2⟩
theorem dx_get (h : PDx w B p g z fr lb M1 M2 v P d) : Calls Tryz.prog 18 #[.pointer (some ⟨p, 0, none⟩), .int .i64 0] w fun e w' => e = .returned (.tuple #[av (nought 512), .int .i64 10]) ∧ PDx w' B p g z fr lb M1 M2 v P d ∧ Fr (fun b => b = p) w w' := by
 refine (plget_bad h.1 h.2.1.1 h.2.2 0 (r := 10) (by simp [phasE]) (by omega)).mono ?_
 rintro e w' ⟨rfl, h1, f⟩
 exact ⟨rfl, h.to f (by simpa using h1), f⟩
theorem dx_put (h : PDx w B p g z fr lb M1 M2 v P d) (x : List UInt8) : Calls Tryz.prog 19 #[.pointer (some ⟨p, 0, none⟩), .int .i64 0, av x] w fun e w' => e = .returned (.int .i64 10) ∧ PDx w' B p g z fr lb M1 M2 v P d ∧ Fr (fun b => b = p) w w' := by
 refine (plput_bad h.1 h.2.1.1 h.2.2 0 (x := x) (r := 10) (by simp [phasE]) (by omega)).mono ?_
 rintro e w' ⟨rfl, h1, f⟩
 exact ⟨rfl, h.to f (by simpa using h1), f⟩
theorem dx_com (h : PDx w B p g z fr lb M1 M2 v P d) : Calls Tryz.prog 21 #[.pointer (some ⟨p, 0, none⟩)] w fun e w' => e = .returned (.int .i64 10) ∧ PDx w' B p g z fr lb M1 M2 v P d ∧ Fr (fun b => b = p) w w' := by
 refine (plct_dead h.1 h.2.1.1 (by simp)).mono ?_
 rintro e w' ⟨rfl, h1, f⟩
 exact ⟨rfl, h.to f h1, f⟩
theorem dx_ck (h : PDx w B p g z fr lb M1 M2 v P d) : Calls Tryz.prog 23 #[.pointer (some ⟨p, 0, none⟩)] w fun e w' => e = .returned (.int .i64 10) ∧ PDx w' B p g z fr lb M1 M2 v P d ∧ Fr (fun b => b = p) w w' := by
 refine (plce_dead h.1 h.2.1.1 (by simp)).mono ?_
 rintro e w' ⟨rfl, h1, f⟩
 exact ⟨rfl, h.to f h1, f⟩
theorem dx_ab (h : PDx w B p g z fr lb M1 M2 v P d) : Calls Tryz.prog 22 #[.pointer (some ⟨p, 0, none⟩)] w fun e w' => e = .returned (.int .i64 10) ∧ PDx w' B p g z fr lb M1 M2 v P d ∧ Fr (fun b => b = p) w w' := by
 refine (plabort_dead h.1 h.2.1.1 (by simp)).mono ?_
 rintro e w' ⟨rfl, h1, f⟩
 exact ⟨rfl, h.to f h1, f⟩
theorem dx_dead (h : PDx w B p g z fr lb M1 M2 v P d) : Calls Tryz.prog 29 #[.pointer (some ⟨p, 0, none⟩)] w fun e w' => e = .returned (.bool true) ∧ PDx w' B p g z fr lb M1 M2 v P d ∧ Fr (fun b => b = p) w w' := by
 refine (pldead_any h.1 h.2.1.1).mono ?_
 rintro e w' ⟨rfl, h1, f⟩
 exact ⟨by simp, h.to f (by simpa using h1), f⟩
set_option maxRecDepth 100000 in
set_option maxHeartbeats 4000000 in
theorem dead_any6 (h : PDx w B p g z fr lb M1 M2 v P d) : Calls Tryz.prog 38 #[.pointer (some ⟨p, 0, none⟩)] w fun e w' => e = .returned (.bool true) ∧ PDx w' B p g z fr lb M1 M2 v P d ∧ Fr (fun b => b = p) w w' := by
 have H0 := Lib.hid (dx_get h)
 obtain ⟨x, hx⟩ : ∃ x, x = nought 512 := ⟨_, rfl⟩
 have hxl : x.length = 512 := by rw [hx]; exact nought_len 512
 rw [← hx] at H0
 have HXL := Lib.hid hxl
 obtain ⟨y, hy⟩ : ∃ y : List UInt8, y = 1 :: nought 511 := ⟨_, rfl⟩
 have HB : Hid (∀ {ops : Array Oper} {o : Oper} {a : Act} {Q : Exit → Act → World → Prop} {rest : List Oper} {w : World}, Region.wanted o (yielded ops a.tmps) = true → o.op = .build 50 #[(0, .const (.int .u8 1))] → wpList Tryz.prog ops Q rest (a.put o.dst (av y)) w → wpList Tryz.prog ops Q (o :: rest) a w) := Lib.hid (by rw [hy]; exact fun h1 h2 h3 => wpList_build_pg1 h1 h2 h3)
 clear h hx hxl hy
 go_enter Tryz.func38, Tryz.ntmps38
 go_wp2_with fail
 refine H0.out.mono ?_
 rintro e w1 ⟨rfl, h1, f1⟩
 obtain ⟨W1, hW1, hb1, hr1, g1, th1⟩ := put_arr w1 50 Tryz.zeroCells50 512 zeroPgCells x HXL.out
 have HW1 := Lib.hid (And.intro hW1 (And.intro th1 HXL.out))
 have H1 := Lib.hid (And.intro (h1.new g1) (f1.trans g1 (fun _ _ q => q.elim)))
 clear h1 f1 hW1 hb1 hr1 g1 th1 H0
 have HD := Lib.hid (dx_dead H1.out.1)
 go_wp2_with (refine wpList_store_mid rfl 50 _ _ rfl w1.heap.size 0 (cellsB x).toArray rfl rfl HW1.out.2.1 (by rw [infoPgS]; simp [cellsB_len, HW1.out.2.2]) (all_oneCell_toArray (cellsB_one _)) ?_; rw [← HW1.out.1])
 refine HD.out.mono ?_
 rintro e w2 ⟨rfl, h2, f2⟩
 have H2 := Lib.hid (And.intro h2 (H1.out.2.trans f2 (fun _ _ q => q)))
 have HP := Lib.hid (dx_put h2 y)
 clear h2 f2 HD
 go_wp2_with (refine HB.out (by rfl) rfl ?_)
 refine HP.out.mono ?_
 rintro e w3 ⟨rfl, h3, f3⟩
 have H3 := Lib.hid (And.intro h3 (H2.out.2.trans f3 (fun _ _ q => q)))
 have HC := Lib.hid (dx_com h3)
 clear h3 f3 HP
 go_wp2_with fail
 refine HC.out.mono ?_
 rintro e w4 ⟨rfl, h4, f4⟩
 have H4 := Lib.hid (And.intro h4 (H3.out.2.trans f4 (fun _ _ q => q)))
 have HA := Lib.hid (dx_ab h4)
 clear h4 f4 HC
 go_wp2_with fail
 refine HA.out.mono ?_
 rintro e w5 ⟨rfl, h5, f5⟩
 have H5 := Lib.hid (And.intro h5 (H4.out.2.trans f5 (fun _ _ q => q)))
 have HK := Lib.hid (dx_ck h5)
 clear h5 f5 HA
 go_wp2_with fail
 refine HK.out.mono ?_
 rintro e w6 ⟨rfl, h6, f6⟩
 have H6 := Lib.hid (And.intro h6 (H5.out.2.trans f6 (fun _ _ q => q)))
 clear h6 f6 HK
 go_wp2_with fail
 go_ret
 exact ⟨rfl, H6.out⟩
end
end Go.Proofs.YtcnlgbjkjlbmbaaGreat

