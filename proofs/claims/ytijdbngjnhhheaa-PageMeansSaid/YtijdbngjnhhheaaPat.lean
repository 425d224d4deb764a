/- Get, Link. -/
import Derived.Test.YtijdbngjnhhheaaPaq
namespace Go.Proofs.Ytijdbngjnhhheaa
open Go.RowKit

set_option maxRecDepth 100000 in
theorem infoU8p : (Try.prog.info? 5).map (fun i => (i.zero, i.size, i.bytes)) = some (some (.int .u8 0), 1, 1) := by kernel_rfl
set_option maxRecDepth 100000 in
theorem slice_none_b (w : World) : (Instr.buildSlice 34 0 #[]).run Try.prog w = .ok (.slice (some ⟨w.heap.size, 0, none⟩) 0 0) (w.alloc (.cells #[] 5)) := by
  unfold Instr.buildSlice
  obtain ⟨i0, hi, hz0, hz1, hz2⟩ := info_parts infoU8p
  simp [run_underlying Try.underlying34, Instr.fill, sizeOf, typeInfo, hi, newRow]
  congr 2
  exact Array.eq_empty_of_size_eq_zero (by rw [Array.size_map, Array.size_range])
section
variable {ops : Array Oper} {o : Oper} {a : Act} {Q : Exit → Act → World → Prop}
set_option maxRecDepth 100000 in
theorem wpList_build_none_b {rest : List Oper} {w : World} (hg : o.guard = none) (hop : o.op = .buildSlice 34 0 #[])
    (hK : wpList Try.prog ops Q rest (a.put o.dst (.slice (some ⟨w.heap.size, 0, none⟩) 0 0)) (w.alloc (.cells #[] 5))) : wpList Try.prog ops Q (o :: rest) a w := by
  refine wpList_plain hg fun K hK' => ?_
  have hr := slice_none_b w
  unfold Oper.wp execOp
  simp only [hop]
  simp [hr, Result.andThen]
  exact hK' _ _ hK
end
section
variable {w : World} {x : PD} {A : Option Addr} {n c : Nat} {b : List UInt8}
set_option maxRecDepth 100000 in
theorem clone_nil (w : World) : Calls Try.prog 35 #[.slice none 0 0] w fun e w' => e = .returned (.slice none 0 0) ∧ w = w' := by
  have he : ∀ w : World, (binOp .eql 34 (.slice none 0 0) (.slice none 0 0)).run Try.prog w = .ok (.bool true) w := fun _ => rfl
  go_enter Try.func35, Try.ntmps35
  go_wp2_with fail
  go_ret
  exact ⟨rfl, rfl⟩
set_option maxRecDepth 100000 in
theorem own_none (w : World) : (w.alloc (.cells #[] 5)).ownsRow 0 5 1 (.slice (some ⟨w.heap.size, 0, none⟩) 0 0) 0 (cellsB []) :=
  ⟨rfl, .inr ⟨w.heap.size, 0, #[], rfl, Nat.zero_le _, heap_alloc_new w _, Nat.le_refl _, Nat.zero_le _, rfl, rfl⟩⟩
/-- New bytes in memory. -/
def NewB (w w' : World) (v : Value) (b : List UInt8) : Prop := ∃ A c, v = .slice A b.length c ∧ Rd w' A b.length b ∧ b.length ≤ c ∧ (∀ ad, A = some ad → w.heap.size ≤ ad.block) ∧ ∃ g, w'.ownsRow g 5 1 v b.length (cellsB b)
set_option maxRecDepth 100000 in
theorem clone_some {ad : Addr} (hr : Rd w (some ad) n b) (hn : n ≤ 1000) : Calls Try.prog 35 #[.slice (some ad) n c] w fun e w' => ∃ v, e = .returned v ∧ NewB w w' v b ∧ Fr (fun _ => False) w w' := by
  have f1 := (Fr.refl (fun _ => False) w).alloc (.cells #[] 5)
  have hw := own_none w
  have HL := Lib.hid (And.intro (hr.keep f1 (fun _ _ q => q)) (And.intro f1 (And.intro hw hr.len)))
  have hs1 : (w.alloc (.cells #[] 5)).heap.size = w.heap.size + 1 := by show (w.heap.push _).size = _; simp
  have HSz := Lib.hid hs1
  obtain ⟨i0, hi, hz0, hz1, hz2⟩ := info_parts infoU8p
  have HI := Lib.hid (And.intro hi (And.intro hz0 (And.intro hz1 hz2)))
  clear hr f1 hw hs1 hi hz0 hz1 hz2
  have he : ∀ w : World, (binOp .eql 34 (.slice (some ad) n c) (.slice none 0 0)).run Try.prog w = .ok (.bool false) w := fun _ => rfl
  go_enter Try.func35, Try.ntmps35
  go_wp2_with (first
    | (refine wpList_build_none_b rfl rfl ?_)
    | (refine wpList_append_bytes _ rfl (.tmp 5) (.tmp 6) 34 rfl 0 5 i0 (.int .u8 0) Try.underlying34 HI.out.1 HI.out.2.1 HI.out.2.2.1 HI.out.2.2.2 rfl _ [] b rfl HL.out.2.2.1 (some ad) n c rfl HL.out.1 (by simp; omega) (Nat.zero_le _) ?_; intro v' w1 hown hgr hblk))
  have HO := Lib.hid (And.intro hown (And.intro hgr hblk))
  clear hown hgr hblk
  go_ret
  refine ⟨_, rfl, ?_, ?_⟩
  · have hown := HO.out.1
    rw [List.nil_append] at hown
    obtain ⟨A', c', hv, hnc, hcm⟩ := own_slice hown
    have hge : ∀ g, v'.ownBlock = some g → w.heap.size ≤ g := fun g hg => by
      rcases HO.out.2.2 with h | h
      · rw [h] at hg
        have hg2 : w.heap.size = g := by injection hg
        omega
      · rw [h] at hg
        injection hg with hg
        have := HSz.out
        omega
    refine ⟨A', c', hv, ?_, hnc, fun ad' e => ?_, 0, hown⟩
    · rw [hv] at hown; exact Rd.of_own hown
    · subst e
      rcases hown.2 with ⟨q, _⟩ | ⟨g, cap, cur, q, _⟩
      · rw [hv] at q; simp at q
      · have hq := hge g (by rw [q]; rfl)
        rw [hv] at q
        injection q with q1 _ _
        injection q1 with q1
        rw [q1]
        exact hq
  · refine HL.out.2.1.grown HO.out.2.1 fun k hk => ?_
    have hk2 : w.heap.size = k := by injection hk
    right; omega
set_option maxRecDepth 100000 in
theorem get_none {z : Int} (hC : ∀ w P, PW w P x → Calls Try.prog 34 #[.pointer (some ⟨P, 0, none⟩), .int .i64 z] w fun e w' => e = .returned (.tuple #[.slice none 0 0, .int .i64 6]) ∧ Fr (fun _ => False) w w') : Calls Try.prog 15 #[av x.bytes, .int .i64 z] w fun e w' => e = .returned (.tuple #[.slice none 0 0, .int .i64 6]) ∧ Fr (fun _ => False) w w' := by
  obtain ⟨X, hX, hP0, g0⟩ := one_page w x.bytes
  have hP : PW X w.heap.size x := hP0
  have HX := Lib.hid hX
  have HG0 := Lib.hid g0
  have C1 := hC _ _ hP
  clear hX hP0 g0 hP hC
  go_enter Try.func15, Try.ntmps15
  go_wp2_with (first | (refine wpList_put rfl 26 _ rfl (cellsB x.bytes).toArray rfl ?_) | (refine wpList_zero rfl 26 rfl zeroPage ?_))
  rw [← HX.out]
  refine C1.mono ?_
  rintro e w1 ⟨rfl, f1⟩
  have HG1 := Lib.hid (HG0.out.trans f1 (fun _ _ q => q))
  clear C1 f1
  go_wp2_with fail
  refine (clone_nil _).mono ?_
  rintro e w' ⟨rfl, rfl⟩
  go_wp2_with fail
  go_ret2
  exact ⟨rfl, HG1.out⟩
set_option maxRecDepth 100000 in
theorem get_any (k : x.Ok) {i : Nat} (hi : x.s[i]? = some (some b)) : Calls Try.prog 15 #[av x.bytes, .int .i64 i] w fun e w' => ∃ v, e = .returned (.tuple #[v, .int .i64 0]) ∧ NewB w w' v b ∧ Fr (fun _ => False) w w' := by
  obtain ⟨X, hX, hP0, g0⟩ := one_page w x.bytes
  have hP : PW X w.heap.size x := hP0
  have HX := Lib.hid hX
  have HG0 := Lib.hid g0
  have C1 := find_some hP k hi
  have h1 := tot_snoc hi
  have h2 := tot_take_le x.s (i + 1)
  have h3 := k.sz
  simp only [rl, Option.getD_some] at h1
  obtain ⟨o, ho⟩ : ∃ o, o = 512 - tot (x.s.take (i + 1)) := ⟨_, rfl⟩
  obtain ⟨p, hp⟩ : ∃ p, p = 512 - tot (x.s.take i) := ⟨_, rfl⟩
  have hb9 : b.length ≤ 400 := k.rs b (List.mem_of_getElem? hi)
  have HC2 : Hid (∀ w', Fr (fun _ => False) X w' → Calls Try.prog 35 #[.slice (some ⟨w.heap.size, if p = o then 0 else o, none⟩) (p - o) (p - o)] w' fun e w'' => ∃ v, e = .returned v ∧ NewB w' w'' v b ∧ Fr (fun _ => False) w' w'') := Lib.hid fun w' f => by
    refine clone_some ?_ (by omega)
    have := rd_partV (P := w.heap.size) (o := o) (p := p) (hP.new f) (by omega) (by rw [k.len]; omega)
    have e : p - o = b.length := by omega
    rw [e, ho, bytes_rec k hi, ← ho] at this
    rw [e]
    exact this
  rw [← ho, ← hp] at C1
  unfold partV at C1
  generalize (⟨w.heap.size, if p = o then 0 else o, none⟩ : Addr) = ad at *
  generalize p - o = m at *
  have hsz : w.heap.size ≤ X.heap.size := g0.size
  have HSZ := Lib.hid hsz
  clear hX hP0 g0 hP k hi ho hp h1 h2 h3 hb9 hsz
  go_enter Try.func15, Try.ntmps15
  go_wp2_with (first | (refine wpList_put rfl 26 _ rfl (cellsB x.bytes).toArray rfl ?_) | (refine wpList_zero rfl 26 rfl zeroPage ?_))
  rw [← HX.out]
  refine C1.mono ?_
  rintro e w1 ⟨rfl, f1⟩
  have C2 := HC2.out w1 f1
  have HG1 := Lib.hid (HG0.out.trans f1 (fun _ _ q => q))
  have HS1 := Lib.hid (Nat.le_trans HSZ.out f1.size)
  clear C1 f1 HC2
  go_wp2_with fail
  refine C2.mono ?_
  rintro e w2 ⟨v, rfl, ⟨A', c', rfl, hr', hnc, hge, hown⟩, f2⟩
  have HN := Lib.hid (And.intro hr' (And.intro hnc (And.intro hge hown)))
  have HG2 := Lib.hid (HG1.out.trans f2 (fun _ _ q => q))
  clear C2 f2 hr' hnc hge hown
  go_wp2_with fail
  go_ret2
  exact ⟨_, rfl, ⟨A', c', rfl, HN.out.1, HN.out.2.1, fun ad e => Nat.le_trans HS1.out (HN.out.2.2.1 ad e), HN.out.2.2.2⟩, HG2.out⟩
set_option maxRecDepth 100000 in
theorem mayNext_no (w : World) {z : Int} (h : z < 0 ∨ 2147483647 < z) : Calls Try.prog 39 #[.int .i64 z] w fun e w' => e = .returned (.bool false) ∧ w = w' := by
  by_cases h0 : z < 0
  · have h1 : ¬ 0 ≤ z := by omega
    have hb : decide (0 ≤ z) = false := by simpa using h0
    clear h
    go_enter Try.func39, Try.ntmps39
    go_wp2_with fail
    go_ret
    exact ⟨rfl, rfl⟩
  · have h1 : 0 ≤ z := by omega
    have h2 : ¬ z ≤ 2147483647 := by omega
    have hb : decide (z ≤ 2147483647) = false := by simpa using h2
    have hb1 : decide (0 ≤ z) = true := by simpa using h1
    clear h
    go_enter Try.func39, Try.ntmps39
    go_wp2_with fail
    go_ret
    exact ⟨rfl, rfl⟩
set_option maxRecDepth 100000 in
theorem link_no (k : x.Ok) {z : Int} (h : z < 0 ∨ 2147483647 < z) : Calls Try.prog 18 #[av x.bytes, .int .i64 z] w fun e w' => e = .returned (.tuple #[av (nought 512), .int .i64 2]) ∧ Fr (fun _ => False) w w' := by
  obtain ⟨X, hX, hP0, hR0, g0⟩ := two_pages w x.bytes
  have hP : PW X w.heap.size x := hP0
  have HX := Lib.hid hX
  have HR := Lib.hid hR0
  have HG0 := Lib.hid g0
  have C1 := may_any hP k
  have HC2 : Hid (∀ w', _) := Lib.hid fun w' => mayNext_no w' h
  have hbs := zeroPage
  have hll : (nought 512).length = 512 := nought_len _
  clear hX hP0 hR0 g0 hP k h
  go_enter Try.func18, Try.ntmps18
  go_wp2_with (first | (refine wpList_put rfl 26 _ rfl (cellsB x.bytes).toArray rfl ?_) | (refine wpList_zero rfl 26 rfl zeroPage ?_))
  rw [← HX.out]
  refine C1.mono ?_
  rintro e w1 ⟨rfl, f1⟩
  have HG1 := Lib.hid (HG0.out.trans f1 (fun _ _ q => q))
  have HR1 := Lib.hid (HR.out.keep f1 (fun q => q))
  have C2 := HC2.out w1
  clear HC2
  clear C1 f1
  go_wp2_with fail
  refine C2.mono ?_
  rintro e w' ⟨rfl, rfl⟩
  clear C2
  have hbR : Blk _ (w.heap.size + 1) 26 (cellsB (nought 512)).toArray := HR1.out
  have hbo := hbR.over (o := 0) (m := (nought 512)) (by have h1 := nought_len 512; have h2 := hll; omega)
  rw [patch_all (by have h1 := nought_len 512; have h2 := hll; omega)] at hbo
  have HE := Lib.hid (And.intro hbo (Fr.setCells (F := fun _ => False) (b := w.heap.size + 1) (vs := cellsB (nought 512)) (o := 0) (.inr (by omega)) HG1.out))
  have HBR := Lib.hid hbR
  clear hbR hbo
  go_wp2_with (refine wpList_store_mid rfl 26 _ _ rfl (w.heap.size + 1) 0 (cellsB (nought 512)).toArray rfl rfl (HBR.out.there (by simp [cellsB_len, nought_len, hll])) (by rw [infoPage]; simp [cellsB_len, hll]) (all_oneCell_toArray (cellsB_one _)) ?_)
  refine bodyPost_ret (results_page2 rfl _ _ (w.heap.size + 1) (nought 512) (.int .i64 2) (by simp) (by simp) hll HE.out.1) rfl ⟨rfl, HE.out.2⟩
set_option maxRecDepth 100000 in
theorem link_any (k : x.Ok) {m : Nat} (h : m ≤ 2147483647) : Calls Try.prog 18 #[av x.bytes, .int .i64 m] w fun e w' => e = .returned (.tuple #[av (x.link m).bytes, .int .i64 0]) ∧ Fr (fun _ => False) w w' := by
  obtain ⟨X, hX, hP0, hR0, g0⟩ := two_pages w x.bytes
  have hP : PW X w.heap.size x := hP0
  have HX := Lib.hid hX
  have HR := Lib.hid hR0
  have HG0 := Lib.hid g0
  have C1 := may_any hP k
  have HC2 : Hid (∀ w', _) := Lib.hid fun w' => mayNext_any w' h
  have hbl := k.len
  have HC3 : Hid (∀ w', Fr (fun _ => False) X w' → Calls Try.prog 40 #[.slice (some ⟨w.heap.size, 8, none⟩) 504 504, .int .i64 m, .int .i64 (4 : Nat)] w' fun e w'' => e = .returned (.tuple #[]) ∧ Blk w'' w.heap.size 26 (cellsB (x.link m).bytes).toArray ∧ Fr (fun q => q = w.heap.size) w' w'') := Lib.hid fun w' f => by
    have := putnum_any (o := 8) (n := 504) (c := 504) (x := m) (s := 4) (hP.new f) (by rw [hbl]; omega) (by omega) (by omega) (by omega) (by omega)
    rwa [link_bytes] at this
  have hll : (x.link m).bytes.length = 512 := (link_ok k h).len
  have hs8 := page_from w.heap.size (z := 8) (o := 8) rfl (by omega)
  have hpX : w.heap.size < X.heap.size := hP0.lt
  have HPX := Lib.hid hpX
  generalize (x.link m).bytes = L at *
  clear hX hP0 hR0 g0 hP k hbl hpX
  go_enter Try.func18, Try.ntmps18
  go_wp2_with (first | (refine wpList_put rfl 26 _ rfl (cellsB x.bytes).toArray rfl ?_) | (refine wpList_zero rfl 26 rfl zeroPage ?_))
  rw [← HX.out]
  refine C1.mono ?_
  rintro e w1 ⟨rfl, f1⟩
  have HG1 := Lib.hid (HG0.out.trans f1 (fun _ _ q => q))
  have HR1 := Lib.hid (HR.out.keep f1 (fun q => q))
  have C2 := HC2.out w1
  have C3 := HC3.out w1 f1
  clear C1 f1 HC2 HC3
  go_wp2_with fail
  refine C2.mono ?_
  rintro e w' ⟨rfl, rfl⟩
  clear C2
  go_wp2_with fail
  refine C3.mono ?_
  rintro e w2 ⟨rfl, hb2, f2⟩
  have HG2 := Lib.hid (HG1.out.trans f2 (fun i hi q => by omega))
  have HR2 := Lib.hid (HR1.out.keep f2 (by omega))
  have hrg : Hid (w2.rangeAt w.heap.size 0 (cellsB L)) := Lib.hid (by
    have := hb2.range 0 512
    rwa [List.drop_zero, List.take_of_length_le (by omega)] at this)
  have hszL : (Try.prog.info? 26).map (·.size) = some (cellsB L).length := by rw [infoPage, cellsB_len, hll]
  clear C3 f2 hb2
  have hbR : Blk _ (w.heap.size + 1) 26 (cellsB (nought 512)).toArray := HR2.out
  have hbo := hbR.over (o := 0) (m := L) (by have h1 := nought_len 512; have h2 := hll; omega)
  rw [patch_all (by have h1 := nought_len 512; have h2 := hll; omega)] at hbo
  have HE := Lib.hid (And.intro hbo (Fr.setCells (F := fun _ => False) (b := w.heap.size + 1) (vs := cellsB L) (o := 0) (.inr (by omega)) HG2.out))
  have HBR := Lib.hid hbR
  clear hbR hbo
  go_wp2_with (first | (refine wpList_load_mid rfl 26 _ rfl w.heap.size 0 rfl (cellsB L) _ hrg.out Try.underlying26 rfl hszL ?_) | (refine wpList_store_mid rfl 26 _ _ rfl (w.heap.size + 1) 0 (cellsB L).toArray rfl rfl (HBR.out.there (by simp [cellsB_len, nought_len, hll])) (by rw [infoPage]; simp [cellsB_len, hll]) (all_oneCell_toArray (cellsB_one _)) ?_))
  refine bodyPost_ret (results_page2 rfl _ _ (w.heap.size + 1) L (.int .i64 0) (by simp) (by simp) hll HE.out.1) rfl ⟨rfl, HE.out.2⟩
end
end Go.Proofs.Ytijdbngjnhhheaa
