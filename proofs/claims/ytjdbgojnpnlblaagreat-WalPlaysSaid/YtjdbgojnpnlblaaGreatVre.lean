/- wal: read. -/
import Derived.Test.YtjdbgojnpnlblaaGreatVrd
import Derived.Maps.OwnIn
namespace Go.Proofs.YtjdbgojnpnlblaaGreat
open Go.RowKit
attribute [local go_sem] Oper.semAt_some

theorem make_sectors0 (W : World) (N : Nat) (hN : N ≤ 1000000) : (Instr.makeSlice 33 (.int .i64 0) (.int .i64 (N : Nat))).run Tryz.prog W = .ok (.slice (some ⟨W.heap.size, 0, none⟩) 0 N) (W.alloc (.cells (cellsB (nought (N * 128))).toArray 45)) := by
  obtain ⟨i0, hi, hz0, hz1, hz2⟩ := info_parts infoSec
  have h := run_make (P := Tryz.prog) W 33 45 i0 (av (nought 128)) Tryz.underlying33 hi hz0 .i64 .i64 0 N (by omega) (by omega) (by rw [hz2]; omega) (by omega)
  rw [h, hz1, made_bytes (av (nought 128)).cells 128 _ rfl (by omega)]
  simp
theorem alloc6 (w : World) (C0 C1 C2 C3 C4 C5 : Array Value) (t0 t1 t2 t3 t4 t5 : TypeId) : ∃ W, W = (((((w.alloc (.cells C0 t0)).alloc (.cells C1 t1)).alloc (.cells C2 t2)).alloc (.cells C3 t3)).alloc (.cells C4 t4)).alloc (.cells C5 t5) ∧ Blk W w.heap.size t0 C0 ∧ Blk W (w.heap.size + 1) t1 C1 ∧ Blk W (w.heap.size + 1 + 1) t2 C2 ∧ Blk W (w.heap.size + 1 + 1 + 1) t3 C3 ∧ Blk W (w.heap.size + 1 + 1 + 1 + 1) t4 C4 ∧ Blk W (w.heap.size + 1 + 1 + 1 + 1 + 1) t5 C5 ∧ W.heap.size = w.heap.size + 6 ∧ Fr (fun _ => False) w W := by
  have k : ∀ {W : World} {g : Nat} {t : TypeId} {cs : Array Value} (o : Obj), Blk W g t cs → Blk (W.alloc o) g t cs := fun o h => h.keep (F := fun _ => False) ((Fr.refl _ _).alloc o) (fun q => q)
  have n : ∀ (W : World) (t : TypeId) (C : Array Value) (g : Nat), W.heap.size = g → Blk (W.alloc (.cells C t)) g t C := fun W t C g e => e ▸ Blk.new W t C
  refine ⟨_, rfl, k _ (k _ (k _ (k _ (k _ (n _ _ _ _ rfl))))), k _ (k _ (k _ (k _ (n _ _ _ _ (by simp))))), k _ (k _ (k _ (n _ _ _ _ (by simp)))), k _ (k _ (n _ _ _ _ (by simp))), k _ (n _ _ _ _ (by simp)), n _ _ _ _ (by simp), by simp, ((((((Fr.refl _ w).alloc _).alloc _).alloc _).alloc _).alloc _).alloc _⟩
def flatS (l : List Sec) : List UInt8 := (l.map (·.1)).flatten
theorem flatS_snoc (l : List Sec) (x : Sec) : flatS (l ++ [x]) = flatS l ++ x.1 := by simp [flatS]
theorem flatS_len (l : List Sec) : (flatS l).length = l.length * 128 := by
  induction l with
  | nil => rfl
  | cons x l ih =>
    show (x.1 ++ flatS l).length = _
    rw [List.length_append, ih, x.2, List.length_cons]
    omega
theorem upto_secs {d : DS} (h : ∀ s ∈ d.rd, s.length = 128) : ∀ {N : Nat}, N ≤ d.rd.length → (upto (secOf d) N).map (·.1) = d.rd.take N
  | 0, _ => rfl
  | N + 1, hN => by
    rw [upto_succ, List.map_append, upto_secs h (by omega), List.take_add_one]
    have hx : d.rd[N]? = some d.rd[N] := List.getElem?_eq_getElem (by omega)
    simp [secOf_at h (show N < d.rd.length by omega), hx]
set_option maxRecDepth 100000 in
theorem results_read2 {tmps : Array Value} {w : World} {g4 g5 : Nat} {u v : Value} (h4 : tmps.getD 4 undef = .pointer (some ⟨g4, 0, none⟩)) (h5 : tmps.getD 5 undef = .pointer (some ⟨g5, 0, none⟩))
    (b4 : Blk w g4 33 #[u]) (b5 : Blk w g5 25 #[v]) : (results Tryz.f36 tmps).run Tryz.prog w = .ok (.tuple #[u, v]) w := by
  have c4 := b4.cell 0
  have c5 := b5.cell 0
  simp at c4 c5
  have h4' : tmps[4]?.getD undef = .pointer (some ⟨g4, 0, none⟩) := by simpa using h4
  have h5' : tmps[5]?.getD undef = .pointer (some ⟨g5, 0, none⟩) := by simpa using h5
  have e4 : (loadVar 33 ⟨g4, 0, none⟩).run Tryz.prog w = .ok u w := by go_simp
  have e5 : (loadVar 25 ⟨g5, 0, none⟩).run Tryz.prog w = .ok v w := by go_simp
  simp [results, Tryz.f36, h4', h5', asAddr, e4, e5]
/-- A row of sectors, in memory, as a list of them. -/
theorem secV_of_own {w : World} {base : Nat} {v : Value} {ss : List (List UInt8)} (h : w.ownsRow base 45 128 v ss.length (cellsB ss.flatten)) (hall : ∀ s ∈ ss, s.length = 128) : SecV w v ss := by
  obtain ⟨A, cap, rfl, h1, h2⟩ := own_slice h
  refine ⟨A, cap, rfl, h1, h2, fun hn => ?_⟩
  rcases h.2 with ⟨_, h0⟩ | ⟨b, c, cur, hv, _⟩
  · omega
  · have hA : A = some ⟨b, 0, none⟩ := by injection hv
    subst hA
    refine ⟨b, 0, rfl, flat_secs hall (fun j u hj => ?_)⟩
    have := h.cells (g := b) rfl j u hj
    rw [Addr.add_mid] at this
    exact this
section
variable {ops : Array Oper} {rest : List Oper} {o : Oper} {a : Act} {w : World} {Q : Exit → Act → World → Prop} {F : Fence} {n : Nat}
theorem wpListIn_build_sec (hg : o.guard = none) (x : Operand) (hop : o.op = .buildSlice 33 1 #[(0, x)]) {l : List UInt8} (hl : l.length = 128) (hx : a.eval x = av l)
    (hK : wpListIn F n Tryz.prog ops Q rest (a.put o.dst (.slice (some ⟨w.heap.size, 0, none⟩) 1 1)) (w.alloc (.cells (cellsB l).toArray 45))) : wpListIn F n Tryz.prog ops Q (o :: rest) a w := by
  refine wpListIn_plain hg fun K hK' => ?_
  have hr := slice_of_one hl w
  have hs : o.semAt F.round a.eval = execOp a.eval o := Oper.semAt_plain F _ _ (fun c h => by rw [hop] at h; cases h)
  unfold Oper.wpIn
  rw [hs]
  unfold execOp
  simp only [hop, Array.map, hx]
  refine ⟨fun f hf => by simp [Oper.about, hop] at hf, ?_⟩
  simp [hr, hx, Result.andThen, Oper.uponIn]
  exact hK' _ _ hK
end
section
variable {w : World} {B g : Nat} {P : Nat → Prop} {d : DS}
set_option maxRecDepth 100000 in
set_option maxHeartbeats 4000000 in
theorem wread_any (h : DAt w B P g d) {N : Nat} (h0 : 0 < N) (hN : N ≤ d.rd.length) : Calls Tryz.prog 36 #[.pointer (some ⟨g, 0, none⟩), .int .i64 N] w fun e w' =>
    ∃ v, e = .returned (.tuple #[v, .int .i64 0]) ∧ SecV w' v (d.rd.take N) ∧ (∀ b, v.ownBlock = some b → w.heap.size ≤ b) ∧ Fr (fun _ => False) w w' := by
  have hlen := h.len.2
  have HD := Lib.hid h
  clear h
  obtain ⟨W1, hW1, hb4, hb5, hs1, hf1⟩ := alloc2 w #[.slice none 0 0] #[.int .i64 0] 33 25
  have hmk := make_sectors0 W1 N (by omega)
  refine callsIn_wide (n := 10).1 ?_
  refine callsIn_of_wp_marks Tryz.func36 rfl trivial ?_ rfl
  simp only [Tryz.ntmps36, List.size_toArray, List.length_cons, List.length_nil, Nat.reduceAdd, Nat.reduceSub, Array.replicate_succ, Array.replicate_zero, List.push_toArray, List.append_toArray, List.nil_append, List.cons_append]
  rw [hW1] at hmk
  gi_wp2
  clear hmk hW1 hb4 hb5 hs1 hf1 W1
  obtain ⟨W, hW, b0, b1, b2, b3, b4, b5, hsz, hf⟩ := alloc6 w #[.slice none 0 0] #[.int .i64 0] (cellsB (nought (N * 128))).toArray #[.slice (some ⟨w.heap.size + 1 + 1, 0, none⟩) 0 N] #[.pointer (some ⟨g, 0, none⟩)] #[.int .i64 (N : Nat)] 33 25 45 33 24 3
  refine ⟨trivial, (callsIn_wide.2 (sectorsOf_any _ g N)).mono ?_⟩
  rintro e w7 ⟨rfl, rfl⟩
  rw [← hW]
  have hs4 : ((((w.alloc (.cells #[.slice none 0 0] 33)).alloc (.cells #[.int .i64 0] 25)).alloc (.cells (cellsB (nought (N * 128))).toArray 45)).alloc (.cells #[.slice (some ⟨w.heap.size + 1 + 1, 0, none⟩) 0 N] 33)).heap.size = w.heap.size + 1 + 1 + 1 + 1 := by simp
  rw [hs4]
  clear hs4 hW
  have hDW := HD.out.new hf
  have hPw := HD.out.2
  have hsq := sectors_stops (fun j => j = w.heap.size + 1 + 1 + 1 ∨ j = w.heap.size + 1 + 1 ∨ W.heap.size ≤ j) (w.heap.size + 1 + 1 + 1 + 1 + 1) (w.heap.size + 1 + 1 + 1 + 1) N g B P d hN (fun b hb q => by have := hPw b hb; omega) W (by omega) (by omega) b5 b4 hDW
  have hown0 : W.ownsRow w.heap.size 45 128 (.slice (some ⟨w.heap.size + 1 + 1, 0, none⟩) 0 N) 0 [] := ⟨rfl, .inr ⟨w.heap.size + 1 + 1, N, _, rfl, by omega, b2, Nat.zero_le _, by simp [maxLen]; omega, by simp [cellsB_len, nought_len], rfl⟩⟩
  have HI0 := Lib.hid (And.intro b0 (And.intro b1 (And.intro b3 (And.intro hf (And.intro hsz hown0)))))
  have HSQ := Lib.hid hsq
  clear hsq b0 b1 b2 b3 b4 b5 hf hDW hPw hown0
  gi_wp2
  refine wpIn_rangeFunc_ownH rfl (by omega) (gf := 96) (lb := #[.pointer (some ⟨w.heap.size + 1 + 1 + 1 + 1 + 1, 0, none⟩), .pointer (some ⟨w.heap.size + 1 + 1 + 1 + 1, 0, none⟩)]) rfl trivial (enters_of Tryz.func96 (by kernel_rfl) rfl) HSQ.out (fun h k => h.trans k (fun _ _ q => q)) (fun W0 l o o' hl ho _ _ => frB (fun _ q => Or.inr (Or.inr q)) W0 l o o' hl ho) (Below.refl _ _) (fun _ => rfl)
    (fun pre X => Blk X w.heap.size 33 #[.slice none 0 0] ∧ Blk X (w.heap.size + 1) 25 #[.int .i64 0] ∧ (∃ v, Blk X (w.heap.size + 1 + 1 + 1) 33 #[v] ∧ X.ownsRow w.heap.size 45 128 v pre.length (cellsB (flatS pre)) ∧ ∀ j, v.ownBlock = some j → j = w.heap.size + 1 + 1 ∨ W.heap.size ≤ j) ∧ Fr (fun _ => False) w X ∧ W.heap.size ≤ X.heap.size ∧ pre.length ≤ N)
    (fun _ _ _ => False)
    (fun s X Y row hs hg hr' => by
      obtain ⟨h1, h2, ⟨v, h3, h4, h5⟩, h6, h7, h8⟩ := hs
      exact ⟨blk_own h1 hg hr', blk_own h2 hg hr', ⟨v, blk_own h3 hg hr', row_own h4 hg hr', h5⟩, fr_own h6 (by omega) hg hr', Nat.le_trans h7 hg.size, h8⟩)
    (fun c' s X Y row hs hg hr' => hs.elim)
    ⟨HI0.out.1, HI0.out.2.1, ⟨_, HI0.out.2.2.1, HI0.out.2.2.2.2.2, fun j hj => by injection hj with hj; exact .inl hj.symm⟩, HI0.out.2.2.2.1, Nat.le_refl _, Nat.zero_le _⟩
    (fun x a' X => ∃ Bx, w.heap.size + 5 < Bx ∧ Blk X Bx 45 (cellsB x.1).toArray ∧ a' = { tmps := #[.pointer (some ⟨g, 0, none⟩), .int .i64 (N : Nat), undef, undef, .pointer (some ⟨w.heap.size, 0, none⟩), .pointer (some ⟨w.heap.size + 1, 0, none⟩), .pointer (some ⟨w.heap.size + 1 + 1 + 1, 0, none⟩), .pointer (some ⟨Bx, 0, none⟩), .int .i64 0, .int .i64 (N : Nat), .slice (some ⟨w.heap.size + 1 + 1, 0, none⟩) 0 N, .pointer (some ⟨g, 0, none⟩), .int .i64 (N : Nat), .func (.func 96) #[] #[.pointer (some ⟨w.heap.size + 1 + 1 + 1 + 1 + 1, 0, none⟩), .pointer (some ⟨w.heap.size + 1 + 1 + 1 + 1, 0, none⟩)], av x.1, .int .i64 0, undef, undef, undef, undef, undef, undef, undef, undef], defers := [] })
    (fun x a' _ X Y row hs hg hr' => by obtain ⟨Bx, h1, h2, h3⟩ := hs; exact ⟨Bx, h1, blk_own h2 hg hr', h3⟩)
    ?assign ?body ?done ?stop
  case assign =>
    rintro l pre x X K ⟨h1, h2, ⟨v, h3, h4, h5⟩, h6, h7, h8⟩ hK
    have HI := Lib.hid (And.intro h1 (And.intro h2 (And.intro h3 (And.intro h4 (And.intro h5 (And.intro h6 (And.intro h7 h8)))))))
    have HXL := Lib.hid x.2
    have HNB := Lib.hid (Blk.new X 45 (cellsB (nought 128)).toArray)
    clear h1 h2 h3 h4 h5 h6 h7 h8
    simp only [encS, List.zip_toArray, List.zip_cons_cons, List.zip_nil_right, List.foldl_toArray, List.foldl_cons, List.foldl_nil, List.setIfInBounds_toArray, List.set_cons_succ, List.set_cons_zero]
    gi_wp2_with (first
      | (refine wpListIn_zero rfl 45 rfl zeroSector ?_)
      | (refine wpListIn_store_mid rfl 45 _ _ rfl X.heap.size 0 (cellsB x.1).toArray rfl rfl (HNB.out.there (by simp [cellsB_len, nought_len, HXL.out])) (by rw [infoSector]; simp [cellsB_len, HXL.out]) (all_oneCell_toArray (cellsB_one _)) ?_))
    have hfa : Fr (fun _ => False) X ((X.alloc (.cells (cellsB (nought 128)).toArray 45)).setCells X.heap.size 0 (cellsB x.1)) := Fr.setCells (.inr (Nat.le_refl _)) ((Fr.refl _ X).alloc _)
    have hbx := HNB.out.over (o := 0) (m := x.1) (by rw [nought_len, HXL.out]; omega)
    rw [patch_all (by rw [nought_len, HXL.out])] at hbx
    exact hK _ _ (((KeepsOthers.alloc X _).trans (KeepsOthers.setCells _ _ _ _)).from _) (hfa.mono (fun _ _ q => q.elim))
      ⟨HI.out.1.keep hfa (fun q => q), HI.out.2.1.keep hfa (fun q => q), ⟨v, HI.out.2.2.1.keep hfa (fun q => q), own_keep HI.out.2.2.2.1 hfa (fun _ _ q => q), HI.out.2.2.2.2.1⟩, HI.out.2.2.2.2.2.1.trans hfa (fun _ _ q => q), Nat.le_trans HI.out.2.2.2.2.2.2.1 hfa.size, HI.out.2.2.2.2.2.2.2⟩
      ⟨X.heap.size, by have := HI.out.2.2.2.2.2.2.1; omega, hbx, rfl⟩
  case body =>
    rintro l pre x a' X hl ⟨r, hr'⟩ ⟨h1, h2, ⟨v, h3, h4, h5⟩, h6, h7, h8⟩ ⟨Bx, hBx, hbx, rfl⟩ hlt
    clear hr' r hl
    have c6 := h3.cell 0
    have f6 := h3.frozen 0
    simp at c6
    have HI := Lib.hid (And.intro h1 (And.intro h2 (And.intro h3 (And.intro h4 (And.intro h5 (And.intro h6 (And.intro h7 hbx)))))))
    have HXR := Lib.hid (sec_range x.2 hbx)
    clear h1 h2 h3 h4 h5 h6 h7 hbx
    obtain ⟨i0, hi, hz0, hz1, hz2⟩ := info_parts infoSec
    have hbs := Blk.new X 45 (cellsB x.1).toArray
    have hfs : Fr (fun _ => False) X (X.alloc (.cells (cellsB x.1).toArray 45)) := (Fr.refl _ X).alloc _
    have hns : ∀ j u, (cellsB x.1)[j]? = some u → (X.alloc (.cells (cellsB x.1).toArray 45)).cell? ((⟨X.heap.size, 0, none⟩ : Addr).add j) = some u := fun j u hj => by
      rw [Addr.add_mid]
      exact (sec_range x.2 hbs) j u hj
    have HAP := Lib.hid (And.intro (own_keep HI.out.2.2.2.1 hfs (fun _ _ q => q)) (And.intro hns (And.intro hz0 (And.intro hz1 (And.intro hz2 (And.intro hi (And.intro hlt HI.out.2.2.2.2.2.1.size)))))))
    clear hbs hfs hns hz0 hz1 hz2 hi
    gi_wp2_with (first
      | (refine wpListIn_load_mid rfl 45 _ rfl Bx 0 rfl (cellsB x.1) _ HXR.out Tryz.underlying45 rfl (by rw [infoSector, cellsB_len, x.2]) ?_)
      | (refine wpListIn_build_sec rfl (.tmp 20) rfl x.2 rfl ?_)
      | (refine wpListIn_append_own_at _ rfl (.tmp 19) (.tmp 21) 33 rfl w.heap.size 45 i0 (av (nought 128)) 128 128 Tryz.underlying33 HAP.out.2.2.2.2.2.1 HAP.out.2.2.1 HAP.out.2.2.2.1 HAP.out.2.2.2.2.1 (by simp [Value.cells, cellsB_len, nought_len]) (by omega) v pre.length (cellsB (flatS pre)) rfl HAP.out.1 ⟨X.heap.size, 0, none⟩ 1 1 (cellsB x.1) rfl (by rw [cellsB_len, x.2]) HAP.out.2.1 (cellsB_one _) (by have := HAP.out.2.2.2.2.2.2.1; simp only [maxLen]; omega) (by have := HAP.out.2.2.2.2.2.2.1; omega) (by have := HAP.out.2.2.2.2.2.2.2; simp; omega) ?_; intro v' X3 ho3 hg3 _ hat3; obtain ⟨A3, n3, c3, rfl⟩ := own_form ho3; have H3 := Lib.hid (And.intro ho3 (And.intro hg3 hat3)); clear ho3 hg3 hat3; have fA : Fr (fun j => v.ownBlock = some j) (X.alloc (.cells (cellsB x.1).toArray 45)) X3 := (Fr.refl (fun j => v.ownBlock = some j) _).grown H3.out.2.1 (fun j e => .inl e); have b6 := (HI.out.2.2.1.keep ((Fr.refl (fun _ => False) X).alloc (.cells (cellsB x.1).toArray 45)) (fun q => q)).keep fA (own_ne HAP.out.1 (HI.out.2.2.1.keep ((Fr.refl (fun _ => False) X).alloc _) (fun q => q)) (by decide)); have d6 := b6.cell 0; have g6 := b6.frozen 0; simp at d6; clear c6 f6))
    have hX2 : Fr (fun _ => False) X (X.alloc (.cells (cellsB x.1).toArray 45)) := (Fr.refl _ X).alloc _
    have hvb : ∀ j, v.ownBlock = some j → j = w.heap.size + 1 + 1 ∨ W.heap.size ≤ j := HI.out.2.2.2.2.1
    have hX3 : Fr (fun j => v.ownBlock = some j) X X3 := (hX2.mono (fun _ _ q => q.elim)).trans fA (fun _ _ q => q)
    have fB : Fr (fun j => j = w.heap.size + 1 + 1 + 1) X3 (X3.setCell ⟨w.heap.size + 1 + 1 + 1, 0, none⟩ (.slice A3 n3 c3)) := (Fr.refl (fun j => j = w.heap.size + 1 + 1 + 1) X3).setCell (p := ⟨w.heap.size + 1 + 1 + 1, 0, none⟩) (.inl rfl) _
    have y1 := (HI.out.1.keep hX3 (own_ne HI.out.2.2.2.1 HI.out.1 (by decide))).keep fB (by omega)
    have y2 := (HI.out.2.1.keep hX3 (own_ne HI.out.2.2.2.1 HI.out.2.1 (by decide))).keep fB (by omega)
    have y3 : Blk (X3.setCell ⟨w.heap.size + 1 + 1 + 1, 0, none⟩ (.slice A3 n3 c3)) (w.heap.size + 1 + 1 + 1) 33 #[.slice A3 n3 c3] := b6.set_ 0 _
    have y4 := own_keep H3.out.1 fB (fun j hj e => own_ne H3.out.1 b6 (by decide) (by rw [hj, e]))
    have y6 : Fr (fun j => j = w.heap.size + 1 + 1 + 1 ∨ j = w.heap.size + 1 + 1 ∨ W.heap.size ≤ j) X (X3.setCell ⟨w.heap.size + 1 + 1 + 1, 0, none⟩ (.slice A3 n3 c3)) :=
      (hX3.mono (fun j _ q => Or.inr (hvb j q))).trans fB (fun j _ q => Or.inl q)
    have y7 : KeepsOthers X (X3.setCell ⟨w.heap.size + 1 + 1 + 1, 0, none⟩ (.slice A3 n3 c3)) := (((KeepsOthers.alloc X _)).trans (KeepsOthers.of_grownBy H3.out.2.1 (own_cells HAP.out.1))).trans (KeepsOthers.setCell _ _ _)
    have y8 : Fr (fun _ => False) w (X3.setCell ⟨w.heap.size + 1 + 1 + 1, 0, none⟩ (.slice A3 n3 c3)) := HI.out.2.2.2.2.2.1.trans y6 (fun j hj q => by omega)
    have hfl : flatS pre ++ x.1 = flatS (pre ++ [x]) := (flatS_snoc pre x).symm
    rw [← cellsB_app, hfl] at y4
    refine ⟨y7.from _, y6, y1, y2, ⟨_, y3, by rw [List.length_append]; exact y4, fun j hj => ?_⟩, y8, Nat.le_trans HI.out.2.2.2.2.2.2.1 y6.size, by rw [List.length_append]; simp; omega⟩
    rcases H3.out.2.2 with q | q
    · exact hvb j (q ▸ hj)
    · rw [q] at hj
      injection hj with hj
      have := HI.out.2.2.2.2.2.2.1
      simp at hj
      omega
  case done =>
    rintro D xs X hD rfl ⟨h1, h2, ⟨v, h3, h4, h5⟩, h6, h7, h8⟩ hK
    have c0 := h1.cell 0
    have f0 := h1.frozen 0
    have d0 := h2.cell 0
    have g0 := h2.frozen 0
    have e0 := h3.cell 0
    simp at c0 d0 e0
    obtain ⟨A3, n3, c3, rfl⟩ := own_form h4
    have HI := Lib.hid (And.intro h1 (And.intro h2 (And.intro h4 (And.intro h6 h8))))
    clear h1 h2 h3 h4 h5 h6 h7 h8
    gi_wp2
    have hYf : Fr (fun j => j = w.heap.size ∨ j = w.heap.size + 1) X ((X.setCell ⟨w.heap.size, 0, none⟩ (.slice A3 n3 c3)).setCell ⟨w.heap.size + 1, 0, none⟩ (.int .i64 0)) := ((Fr.refl (fun j => j = w.heap.size ∨ j = w.heap.size + 1) X).setCell (p := ⟨w.heap.size, 0, none⟩) (.inl (.inl rfl)) _).setCell (p := ⟨w.heap.size + 1, 0, none⟩) (.inl (.inr rfl)) _
    have hK1 := ((KeepsOthers.setCell X ⟨w.heap.size, 0, none⟩ (.slice A3 n3 c3)).trans (KeepsOthers.setCell _ ⟨w.heap.size + 1, 0, none⟩ (.int .i64 0))).same D _ hK rfl
    have z4 : Blk ((X.setCell ⟨w.heap.size, 0, none⟩ (.slice A3 n3 c3)).setCell ⟨w.heap.size + 1, 0, none⟩ (.int .i64 0)) w.heap.size 33 #[.slice A3 n3 c3] := (HI.out.1.set_ 0 (.slice A3 n3 c3)).keep ((Fr.refl (fun j => j = w.heap.size + 1) _).setCell (p := ⟨w.heap.size + 1, 0, none⟩) (.inl rfl) _) (by omega)
    have z5 : Blk ((X.setCell ⟨w.heap.size, 0, none⟩ (.slice A3 n3 c3)).setCell ⟨w.heap.size + 1, 0, none⟩ (.int .i64 0)) (w.heap.size + 1) 25 #[.int .i64 0] := (HI.out.2.1.keep ((Fr.refl (fun j => j = w.heap.size) X).setCell (p := ⟨w.heap.size, 0, none⟩) (.inl rfl) (.slice A3 n3 c3)) (by omega)).set_ 0 _
    have zo := own_keep HI.out.2.2.1 hYf (fun j hj q => by
      rcases q with q | q
      · exact own_ne HI.out.2.2.1 HI.out.1 (by decide) (by rw [hj, q])
      · exact own_ne HI.out.2.2.1 HI.out.2.1 (by decide) (by rw [hj, q]))
    have zf : Fr (fun _ => False) w ((X.setCell ⟨w.heap.size, 0, none⟩ (.slice A3 n3 c3)).setCell ⟨w.heap.size + 1, 0, none⟩ (.int .i64 0)) := HI.out.2.2.2.1.trans hYf (fun j hj q => by omega)
    obtain ⟨z1, z2, z3⟩ := fin_put hK1 hD (by omega) zf
    refine ⟨by simp, .inl ⟨_, _, rfl, run_takeDeferred hK1, ?_⟩⟩
    have hls := upto_secs HD.out.all128 hN
    have ho := z3 zo
    have hfl : flatS (upto (secOf d) N) = (d.rd.take N).flatten := by unfold flatS; rw [hls]
    have hll : (upto (secOf d) N).length = (d.rd.take N).length := by rw [← hls, List.length_map]
    rw [hfl, hll] at ho
    exact ⟨_, results_read2 rfl rfl (z2 z4) (z2 z5), _, rfl, secV_of_own ho (fun s hs => HD.out.all128 s (List.mem_of_mem_take hs)), fun b hb => own_low ho hb, z1⟩
  case stop => exact fun D c' pre X hD _ h => h.elim
end
end Go.Proofs.YtjdbgojnpnlblaaGreat
