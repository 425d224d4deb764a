/- The calls of package page, for pages that may be. -/
import Derived.Test.YtijdbngjnhhheaaPch
namespace Go.Proofs.Ytijdbngjnhhheaa
open Go.RowKit

set_option maxRecDepth 100000 in
theorem build_page (w : World) : (Instr.build 26 #[]).run Try.prog w = .ok (av (nought 512)) w := by
  unfold Instr.build
  obtain ⟨i0, hi, hz0, hz1, hz2⟩ := info_parts (show (Try.prog.info? 5).map (fun i => (i.zero, i.size, i.bytes)) = some (some (.int .u8 0), 1, 1) by kernel_rfl)
  rw [Sem.run_bind, zeroPage]
  simp [run_underlying Try.underlying26, Instr.fill, Value.cells, sizeOf, typeInfo, hi]
set_option maxRecDepth 100000 in
theorem two_pages (w : World) (L : List UInt8) : ∃ X, X = (w.alloc (.cells (cellsB L).toArray 26)).alloc (.cells (cellsB (nought 512)).toArray 26) ∧ Blk X w.heap.size 26 (cellsB L).toArray ∧ Blk X (w.heap.size + 1) 26 (cellsB (nought 512)).toArray ∧ Fr (fun _ => False) w X := by
  refine ⟨_, rfl, (Blk.new w 26 (cellsB L).toArray).keep (F := fun _ => False) ((Fr.refl _ _).alloc _) (fun q => q), ?_, ((Fr.refl _ _).alloc _).alloc _⟩
  have := Blk.new (w.alloc (.cells (cellsB L).toArray 26)) 26 (cellsB (nought 512)).toArray
  have e : (w.alloc (.cells (cellsB L).toArray 26)).heap.size = w.heap.size + 1 := by show (w.heap.push _).size = _; simp
  rwa [e] at this
set_option maxRecDepth 100000 in
theorem one_page (w : World) (L : List UInt8) : ∃ X, X = w.alloc (.cells (cellsB L).toArray 26) ∧ Blk X w.heap.size 26 (cellsB L).toArray ∧ Fr (fun _ => False) w X :=
  ⟨_, rfl, Blk.new w 26 (cellsB L).toArray, (Fr.refl _ _).alloc _⟩
set_option maxRecDepth 100000 in
theorem results_page2 {fn : Func} {p q : Tmp} (h : fn.results = #[.cell p 26, .tmp q]) (tmps : Array Value) (w : World) (b : Nat) (L : List UInt8) (v : Value) (hp : tmps.getD p undef = .pointer (some ⟨b, 0, none⟩)) (hq : tmps.getD q undef = v) (hl : L.length = 512)
    (hb : Blk w b 26 (cellsB L).toArray) : (results fn tmps).run Try.prog w = .ok (.tuple #[av L, v]) w := by
  have e := run_loadVar_row (P := Try.prog) w b 26 26 (cellsB L).toArray (0, 0) _ hb Try.underlying26 rfl (by rw [infoPage]; simp [cellsB_len, hl])
  have hp' : tmps[p]?.getD undef = .pointer (some ⟨b, 0, none⟩) := by simpa using hp
  have hq' : tmps[q]?.getD undef = v := by simpa using hq
  simp [results, h, hp', hq', asAddr, e]
set_option maxRecDepth 100000 in
theorem results_page3 {fn : Func} {p q r : Tmp} (h : fn.results = #[.cell p 26, .tmp q, .tmp r]) (tmps : Array Value) (w : World) (b : Nat) (L : List UInt8) (v u : Value) (hp : tmps.getD p undef = .pointer (some ⟨b, 0, none⟩)) (hq : tmps.getD q undef = v) (hr : tmps.getD r undef = u) (hl : L.length = 512)
    (hb : Blk w b 26 (cellsB L).toArray) : (results fn tmps).run Try.prog w = .ok (.tuple #[av L, v, u]) w := by
  have e := run_loadVar_row (P := Try.prog) w b 26 26 (cellsB L).toArray (0, 0) _ hb Try.underlying26 rfl (by rw [infoPage]; simp [cellsB_len, hl])
  have hp' : tmps[p]?.getD undef = .pointer (some ⟨b, 0, none⟩) := by simpa using hp
  have hq' : tmps[q]?.getD undef = v := by simpa using hq
  have hr' : tmps[r]?.getD undef = u := by simpa using hr
  simp [results, h, hp', hq', hr', asAddr, e]
set_option maxRecDepth 100000 in
theorem ok_new {k : Nat} (hk : k ≤ 4) : (PD.mk k 0 []).Ok := ⟨hk, by simp, by simp [tot], fun b hb => by simp at hb, fun i hi => by simp at hi⟩
section
variable {w : World} {x : PD}
set_option maxRecDepth 100000 in
theorem new_any {k : Nat} (hk : k ≤ 4) : Calls Try.prog 13 #[.int .i64 k] w fun e w' => e = .returned (.tuple #[av (PD.mk k 0 []).bytes, .int .i64 0]) ∧ Fr (fun _ => False) w w' := by
  obtain ⟨X, hX, hR0, g0⟩ := one_page w (nought 512)
  have hll := (ok_new hk).len
  have C1 := mayKind_any X hk
  have C2 := packed_any (w := X) (A := none) (c := 0) (n := 0) (kind := k) (next := 0) (s := []) rfl (Nat.le_refl _) (by omega) (fun i o hi => by simp at hi) hk (by omega) (by simp [trim, tot])
  have et : trim [] = [] := rfl
  rw [et] at C2
  generalize (PD.mk k 0 []).bytes = L at *
  have HX := Lib.hid hX
  have HR := Lib.hid hR0
  have HG0 := Lib.hid g0
  clear hX hR0 g0
  go_enter Try.func13, Try.ntmps13
  go_wp2_with (refine wpList_zero rfl 26 rfl zeroPage ?_)
  rw [← HX.out]
  refine C1.mono ?_
  rintro e w' ⟨rfl, rfl⟩
  clear C1
  go_wp2_with fail
  refine C2.mono ?_
  rintro e w1 ⟨rfl, f1⟩
  have HG1 := Lib.hid (HG0.out.trans f1 (fun _ _ q => q))
  clear C2
  have hbR : Blk _ (w.heap.size) 26 (cellsB (nought 512)).toArray := HR.out.keep f1 (fun q => q)
  have hbo := hbR.over (o := 0) (m := L) (by have h1 := nought_len 512; have h2 := hll; omega)
  rw [patch_all (by have h1 := nought_len 512; have h2 := hll; omega)] at hbo
  have HE := Lib.hid (And.intro hbo (Fr.setCells (F := fun _ => False) (b := w.heap.size) (vs := cellsB L) (o := 0) (.inr (by omega)) HG1.out))
  have HBR := Lib.hid hbR
  clear hbR hbo
  go_wp2_with (refine wpList_store_mid rfl 26 _ _ rfl (w.heap.size) 0 (cellsB L).toArray rfl rfl (HBR.out.there (by simp [cellsB_len, nought_len, hll])) (by rw [infoPage]; simp [cellsB_len, hll]) (all_oneCell_toArray (cellsB_one _)) ?_)
  refine bodyPost_ret (results_page2 rfl _ _ (w.heap.size) L (.int .i64 0) (by simp) (by simp) hll HE.out.1) rfl ⟨rfl, HE.out.2⟩
set_option maxRecDepth 100000 in
theorem Kind_any (k : x.Ok) : Calls Try.prog 12 #[av x.bytes] w fun e w' => e = .returned (.int .i64 (x.kind : Int)) ∧ Fr (fun _ => False) w w' := by
  obtain ⟨X, hX, hP0, g0⟩ := one_page w x.bytes
  have hP : PW X w.heap.size x := hP0
  have HX := Lib.hid hX
  have HG0 := Lib.hid g0
  have C1 := may_any hP k
  have HC2 : Hid (∀ w', Fr (fun _ => False) X w' → _) := Lib.hid fun w' f => kindOf_any (hP.new f) k
  generalize hval : (x.kind : Int) = v at *
  clear hX hP0 hP g0 k hval
  go_enter Try.func12, Try.ntmps12
  go_wp2_with (first | (refine wpList_put rfl 26 _ rfl (cellsB x.bytes).toArray rfl ?_) | (refine wpList_zero rfl 26 rfl zeroPage ?_))
  rw [← HX.out]
  refine C1.mono ?_
  rintro e w1 ⟨rfl, f1⟩
  have C2 := HC2.out w1 f1
  have HG1 := Lib.hid (HG0.out.trans f1 (fun _ _ q => q))
  clear C1 HC2 f1
  go_wp2_with fail
  refine C2.mono ?_
  rintro e w' ⟨rfl, rfl⟩
  go_wp2_with fail
  go_ret
  exact ⟨rfl, HG1.out⟩
set_option maxRecDepth 100000 in
theorem Next_any (k : x.Ok) : Calls Try.prog 19 #[av x.bytes] w fun e w' => e = .returned (.int .i64 (x.next : Int)) ∧ Fr (fun _ => False) w w' := by
  obtain ⟨X, hX, hP0, g0⟩ := one_page w x.bytes
  have hP : PW X w.heap.size x := hP0
  have HX := Lib.hid hX
  have HG0 := Lib.hid g0
  have C1 := may_any hP k
  have HC2 : Hid (∀ w', Fr (fun _ => False) X w' → _) := Lib.hid fun w' f => nextOf_any (hP.new f) k
  generalize hval : (x.next : Int) = v at *
  clear hX hP0 hP g0 k hval
  go_enter Try.func19, Try.ntmps19
  go_wp2_with (first | (refine wpList_put rfl 26 _ rfl (cellsB x.bytes).toArray rfl ?_) | (refine wpList_zero rfl 26 rfl zeroPage ?_))
  rw [← HX.out]
  refine C1.mono ?_
  rintro e w1 ⟨rfl, f1⟩
  have C2 := HC2.out w1 f1
  have HG1 := Lib.hid (HG0.out.trans f1 (fun _ _ q => q))
  clear C1 HC2 f1
  go_wp2_with fail
  refine C2.mono ?_
  rintro e w' ⟨rfl, rfl⟩
  go_wp2_with fail
  go_ret
  exact ⟨rfl, HG1.out⟩
set_option maxRecDepth 100000 in
theorem Slots_any (k : x.Ok) : Calls Try.prog 14 #[av x.bytes] w fun e w' => e = .returned (.int .i64 (x.s.length : Int)) ∧ Fr (fun _ => False) w w' := by
  obtain ⟨X, hX, hP0, g0⟩ := one_page w x.bytes
  have hP : PW X w.heap.size x := hP0
  have HX := Lib.hid hX
  have HG0 := Lib.hid g0
  have C1 := may_any hP k
  have HC2 : Hid (∀ w', Fr (fun _ => False) X w' → _) := Lib.hid fun w' f => manyOf_any (hP.new f) k
  generalize hval : (x.s.length : Int) = v at *
  clear hX hP0 hP g0 k hval
  go_enter Try.func14, Try.ntmps14
  go_wp2_with (first | (refine wpList_put rfl 26 _ rfl (cellsB x.bytes).toArray rfl ?_) | (refine wpList_zero rfl 26 rfl zeroPage ?_))
  rw [← HX.out]
  refine C1.mono ?_
  rintro e w1 ⟨rfl, f1⟩
  have C2 := HC2.out w1 f1
  have HG1 := Lib.hid (HG0.out.trans f1 (fun _ _ q => q))
  clear C1 HC2 f1
  go_wp2_with fail
  refine C2.mono ?_
  rintro e w' ⟨rfl, rfl⟩
  go_wp2_with fail
  go_ret
  exact ⟨rfl, HG1.out⟩
set_option maxRecDepth 100000 in
theorem Room_any (k : x.Ok) : Calls Try.prog 20 #[av x.bytes] w fun e w' => e = .returned (.int .i64 x.room) ∧ Fr (fun _ => False) w w' := by
  obtain ⟨X, hX, hP0, g0⟩ := one_page w x.bytes
  have hP : PW X w.heap.size x := hP0
  have HX := Lib.hid hX
  have HG0 := Lib.hid g0
  have C1 := may_any hP k
  have HC2 : Hid (∀ w', Fr (fun _ => False) X w' → _) := Lib.hid fun w' f => room_any (hP.new f) k
  generalize hval : x.room = v at *
  clear hX hP0 hP g0 k hval
  go_enter Try.func20, Try.ntmps20
  go_wp2_with (first | (refine wpList_put rfl 26 _ rfl (cellsB x.bytes).toArray rfl ?_) | (refine wpList_zero rfl 26 rfl zeroPage ?_))
  rw [← HX.out]
  refine C1.mono ?_
  rintro e w1 ⟨rfl, f1⟩
  have C2 := HC2.out w1 f1
  have HG1 := Lib.hid (HG0.out.trans f1 (fun _ _ q => q))
  clear C1 HC2 f1
  go_wp2_with fail
  refine C2.mono ?_
  rintro e w2 ⟨rfl, f2⟩
  go_wp2_with fail
  go_ret
  exact ⟨rfl, HG1.out.trans f2 (fun _ _ q => q)⟩
set_option maxRecDepth 100000 in
theorem May_any (k : x.Ok) : Calls Try.prog 11 #[av x.bytes] w fun e w' => e = .returned (.bool true) ∧ Fr (fun _ => False) w w' := by
  obtain ⟨X, hX, hP0, g0⟩ := one_page w x.bytes
  have hP : PW X w.heap.size x := hP0
  have HX := Lib.hid hX
  have HG0 := Lib.hid g0
  have C1 := may_any hP k
  clear hX hP0 hP g0 k
  go_enter Try.func11, Try.ntmps11
  go_wp2_with (first | (refine wpList_put rfl 26 _ rfl (cellsB x.bytes).toArray rfl ?_) | (refine wpList_zero rfl 26 rfl zeroPage ?_))
  rw [← HX.out]
  refine C1.mono ?_
  rintro e w1 ⟨rfl, f1⟩
  go_wp2_with fail
  go_ret
  exact ⟨rfl, HG0.out.trans f1 (fun _ _ q => q)⟩
end
end Go.Proofs.Ytijdbngjnhhheaa
