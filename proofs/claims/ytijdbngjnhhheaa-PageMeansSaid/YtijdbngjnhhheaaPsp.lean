/- What a slot tells: spanOf, empty, cellOf. -/
import Derived.Test.YtijdbngjnhhheaaPrd
namespace Go.Proofs.Ytijdbngjnhhheaa
open Go.RowKit

set_option maxRecDepth 100000 in
theorem infoSpan : (Try.prog.info? 90).map (·.size) = some 2 := by kernel_rfl
set_option maxRecDepth 100000 in
theorem infoCell : (Try.prog.info? 70).map (·.size) = some 2 := by kernel_rfl
set_option maxRecDepth 100000 in
theorem pageLen : Try.prog.arrayLen 26 = 512 := by kernel_rfl
set_option maxRecDepth 100000 in
theorem pageSz (w : World) : (sizeOf (Try.prog.elem 26)).run Try.prog w = .ok 1 w := by go_simp
set_option maxRecDepth 100000 in
theorem addr_add (P o n : Nat) : (⟨P, o, none⟩ : Addr).add n = ⟨P, o + n, none⟩ := by unfold Addr.add; split <;> simp_all
set_option maxRecDepth 100000 in
/-- Parts of a page that stands in a block, as slices. -/
theorem page_from (P : Nat) {z : Int} {o : Nat} (hz : z = (o : Int)) (ho : o < 512) (W : World) :
    (Instr.sliceAt 26 (.pointer (some ⟨P, 0, none⟩)) (some (.int .i64 z)) none none).run Try.prog W = .ok (.slice (some ⟨P, o, none⟩) (512 - o) (512 - o)) W := by
  rw [run_sliceAt_array_l W 26 _ (by kernel_rfl) .i64 z (by omega) (by rw [pageLen]; omega), pageSz]
  have e : z.toNat = o := by omega
  simp [Result.andThen, slicedAt, pageLen, e, addr_add]
  intro hh; omega
set_option maxRecDepth 100000 in
theorem page_lh (P : Nat) {z y : Int} {o p : Nat} (hz : z = (o : Int)) (hy : y = (p : Int)) (ho : o ≤ p) (hp : p ≤ 512) (h0 : o < 512) (W : World) :
    (Instr.sliceAt 26 (.pointer (some ⟨P, 0, none⟩)) (some (.int .i64 z)) (some (.int .i64 y)) none).run Try.prog W = .ok (.slice (some ⟨P, o, none⟩) (p - o) (512 - o)) W := by
  rw [run_sliceAt_array_lh W 26 _ (by kernel_rfl) .i64 .i64 z y (by omega) (by omega) (by rw [pageLen]; omega), pageSz]
  have e : z.toNat = o := by omega
  have e2 : y.toNat = p := by omega
  simp [Result.andThen, slicedAt, pageLen, e, e2, addr_add]
  intro hh; omega
/-- A slice from o to p with no more behind; where it is empty, it begins where the block does. -/
def partV (P o p : Nat) : Value := .slice (some ⟨P, if p = o then 0 else o, none⟩) (p - o) (p - o)
set_option maxRecDepth 100000 in
theorem page_lhm (P : Nat) {z y : Int} {o p : Nat} (hz : z = (o : Int)) (hy : y = (p : Int)) (ho : o ≤ p) (hp : p ≤ 512) (W : World) :
    (Instr.sliceAt 26 (.pointer (some ⟨P, 0, none⟩)) (some (.int .i64 z)) (some (.int .i64 y)) (some (.int .i64 y))).run Try.prog W = .ok (partV P o p) W := by
  rw [run_sliceAt_array_lhm W 26 _ (by kernel_rfl) .i64 .i64 .i64 z y y (by omega) (by omega) (by omega) (by rw [pageLen]; omega), pageSz]
  have e : z.toNat = o := by omega
  have e2 : y.toNat = p := by omega
  by_cases hop : p = o
  · simp [Result.andThen, slicedAt, partV, e, e2, hop]
  · simp [Result.andThen, slicedAt, partV, e, e2, hop, addr_add]
set_option maxRecDepth 100000 in
theorem rd_partV {w : World} {P o p : Nat} {t : TypeId} {l : List UInt8} (h : Blk w P t (cellsB l).toArray) (ho : o ≤ p) (hp : p ≤ l.length) : Rd w (some ⟨P, if p = o then 0 else o, none⟩) (p - o) (sub l o (p - o)) := by
  by_cases hop : p = o
  · subst hop
    simp only [Nat.sub_self, sub, List.take_zero]
    exact Rd.nil _ _
  · rw [if_neg hop]
    exact blk_rd h (by omega)

def spanV (s : Nat × Nat) : Value := .agg #[.int .i64 s.1, .int .i64 s.2]
section
variable {w : World} {P : Nat} {x : PD}
set_option maxRecDepth 100000 in
theorem spanOf_any (h : PW w P x) (k : x.Ok) {i : Nat} (hi : i < x.s.length) : Calls Try.prog 61 #[.pointer (some ⟨P, 0, none⟩), .int .i64 i] w fun e w' => e = .returned (spanV (spanOf x.s i)) ∧ Fr (fun _ => False) w w' := by
  obtain ⟨b, hb⟩ : ∃ b, b = (spanOf x.s i).1 := ⟨_, rfl⟩
  obtain ⟨n, hn⟩ : ∃ n, n = (spanOf x.s i).2 := ⟨_, rfl⟩
  have hv : spanV (spanOf x.s i) = .agg #[.int .i64 b, .int .i64 n] := by rw [hb, hn]; rfl
  rw [hv]
  have hm := k.many
  obtain ⟨q1, q2⟩ := bytes_span k hi
  have f0 := (Fr.refl (fun _ => False) w).alloc (.cells #[.int .i64 0, .int .i64 0] 90)
  have HN : Hid (∀ w', Fr (fun _ => False) w w' → (Calls Try.prog 66 #[.slice (some ⟨P, 12 + 4 * i, none⟩) (512 - (12 + 4 * i)) (512 - (12 + 4 * i)), .int .i64 (2 : Nat)] w' fun e w'' => e = .returned (.int .i64 b) ∧ w' = w'') ∧
      (Calls Try.prog 66 #[.slice (some ⟨P, 12 + 4 * i + 2, none⟩) (512 - (12 + 4 * i) - 2) (512 - (12 + 4 * i) - 2), .int .i64 (2 : Nat)] w' fun e w'' => e = .returned (.int .i64 n) ∧ w' = w'')) := Lib.hid fun w' f => ⟨by
    have := number_blk (o := 12 + 4 * i) (n := 512 - (12 + 4 * i)) (c := 512 - (12 + 4 * i)) (s := 2) (h.new f) (by rw [k.len]; omega) (by omega) (by omega) (by omega)
    rwa [q1, ← hb] at this, by
    have := number_blk (o := 12 + 4 * i + 2) (n := 512 - (12 + 4 * i) - 2) (c := 512 - (12 + 4 * i) - 2) (s := 2) (h.new f) (by rw [k.len]; omega) (by omega) (by omega) (by omega)
    rwa [q2, ← hn] at this⟩
  have hs1 : ∀ W, (Instr.sliceAt 26 (.pointer (some ⟨P, 0, none⟩)) (some (.int .i64 (12 + 4 * (i : Int)))) none none).run Try.prog W = .ok (.slice (some ⟨P, 12 + 4 * i, none⟩) (512 - (12 + 4 * i)) (512 - (12 + 4 * i))) W := page_from P (by omega) (by omega)
  have hs2 : ∀ W, (Instr.slice 34 (.slice (some ⟨P, 12 + 4 * i, none⟩) (512 - (12 + 4 * i)) (512 - (12 + 4 * i))) (some (.int .i64 2)) none none).run Try.prog W = .ok (.slice (some ⟨P, 12 + 4 * i + 2, none⟩) (512 - (12 + 4 * i) - 2) (512 - (12 + 4 * i) - 2)) W := fun W => by
    rw [run_slice_l W 34 _ _ _ Try.underlying34 .i64 2 (by omega) (by omega)]
    have hz : (sizeOf (Try.prog.elem 34)).run Try.prog W = .ok 1 W := by go_simp
    rw [hz]
    simp [Result.andThen, sliced, addr_add]
    omega
  have hi9 : i ≤ 124 := by omega
  have HB := Lib.hid (And.intro (Blk.new w 90 #[.int .i64 0, .int .i64 0]) f0)
  clear h k hi hm q1 q2 hb hn hv f0
  go_enter Try.func61, Try.ntmps61
  go_upto_region 2 with (fail)
  refine wp_region_held_drew (S := fun w' => Fr (fun _ => False) w w' ∧ ∃ y0 y1 : Int, Blk w' w.heap.size 90 #[.int .i64 y0, .int .i64 y1]) (by kernel_rfl) (⟨HB.out.2.drew, 0, 0, HB.out.1⟩) (fun hS0 => ?_)
  refine anyH_take 0 12 (.slice (some ⟨P, 12 + 4 * i, none⟩) (512 - (12 + 4 * i)) (512 - (12 + 4 * i))) rfl rfl (by kernel_rfl) (by kernel_rfl) (by kernel_rfl) (fun _ _ _ h => h) (.inl ⟨by rfl, fun w'' hS => by go_simp⟩) hS0 ?_
  (simp only [List.setIfInBounds_toArray, List.set_cons_zero, List.set_cons_succ])
  refine anyH_take 2 14 (.slice (some ⟨P, 12 + 4 * i, none⟩) (512 - (12 + 4 * i)) (512 - (12 + 4 * i))) rfl rfl (by kernel_rfl) (by kernel_rfl) (by kernel_rfl) (fun _ _ _ h => h) (.inl ⟨by rfl, fun w'' hS => by go_simp⟩) hS0 ?_
  (simp only [List.setIfInBounds_toArray, List.set_cons_zero, List.set_cons_succ])
  refine anyH_take 3 15 (.slice (some ⟨P, 12 + 4 * i + 2, none⟩) (512 - (12 + 4 * i) - 2) (512 - (12 + 4 * i) - 2)) rfl rfl (by kernel_rfl) (by kernel_rfl) (by kernel_rfl) (fun _ _ _ h => h) (.inl ⟨by rfl, fun w'' hS => by have q0 := hs2 w''; go_simp⟩) hS0 ?_
  (simp only [List.setIfInBounds_toArray, List.set_cons_zero, List.set_cons_succ])
  refine anyH_one 1 13 (.int .i64 b) (by kernel_rfl) (tame_call 13 rfl rfl (by rfl) (fun w'' hS => by go_simp) (fun w'' hS => (((HN.out w'' hS.1).1).mono fun e w3 he => ⟨he.1, he.2 ▸ hS⟩))) hS0 (fun wl1 hS0 => ?_)
  (simp only [List.setIfInBounds_toArray, List.set_cons_zero, List.set_cons_succ])
  refine anyH_one 4 16 (.int .i64 n) (by kernel_rfl) (tame_call 16 rfl rfl (by rfl) (fun w'' hS => by go_simp) (fun w'' hS => (((HN.out w'' hS.1).2).mono fun e w3 he => ⟨he.1, he.2 ▸ hS⟩))) hS0 (fun wl2 hS0 => ?_)
  (simp only [List.setIfInBounds_toArray, List.set_cons_zero, List.set_cons_succ])
  refine anyH_take 5 17 (.agg #[.int .i64 b, .int .i64 n]) rfl rfl (by kernel_rfl) (by kernel_rfl) (by kernel_rfl) (fun _ _ _ h => h) (.inl ⟨by rfl, fun w'' hS => by go_simp⟩) hS0 ?_
  (simp only [List.setIfInBounds_toArray, List.set_cons_zero, List.set_cons_succ])
  obtain ⟨y0, y1, hb0⟩ := hS0.2
  refine anyH_skip 6 _ (by kernel_rfl) rfl rfl (by rfl) (run_store_mid 90 _ _ rfl w.heap.size 0 #[.int .i64 b, .int .i64 n] rfl rfl (hb0.there (by simp)) (by rw [infoSpan]; rfl) (all_oneCell_toArray (cs := [.int .i64 b, .int .i64 n]) (by intro u hu; simp at hu; rcases hu with rfl | rfl <;> rfl))) ⟨Fr.setCells (.inr (Nat.le_refl _)) hS0.1, b, n, (hb0.set_ 0 _).set_ 1 _⟩ ?_
  refine wpAnyH_done (by kernel_rfl) ?_ _
  have HE := Lib.hid (And.intro ((hb0.set_ 0 (.int .i64 b)).set_ 1 (.int .i64 n)) (Fr.setCells (F := fun _ => False) (vs := [.int .i64 b, .int .i64 n]) (o := 0) (.inr (Nat.le_refl _)) hS0.1))
  go_wp2_with fail
  refine bodyPost_ret (results_cell_row rfl _ _ w.heap.size 90 #[.int .i64 b, .int .i64 n] (0, 0) _ rfl HE.out.1 Try.underlying90 rfl (by rw [infoSpan]; rfl)) rfl ⟨rfl, HE.out.2⟩
set_option maxRecDepth 100000 in
theorem empty_any (w : World) (b n : Nat) : Calls Try.prog 62 #[spanV (b, n)] w fun e w' => e = .returned (.bool (decide (b = 0 ∧ n = 0))) ∧ Fr (fun _ => False) w w' := by
  have f0 := (Fr.refl (fun _ => False) w).alloc (.cells #[.int .i64 b, .int .i64 n] 90)
  have HF := Lib.hid f0
  unfold spanV
  clear f0
  go_enter Try.func62, Try.ntmps62
  go_wp2_with fail
  all_goals
    go_ret
    exact ⟨by simp_all, (Fr.refl _ _).alloc _⟩
set_option maxRecDepth 100000 in
theorem PD.Ok.pos (k : x.Ok) (i : Nat) : 0 < 512 - tot (x.s.take i) := by
  have := tot_take_le x.s i
  have := k.sz
  omega
set_option maxRecDepth 100000 in
theorem span_empty (k : x.Ok) {i : Nat} {o : Rec} (h : x.s[i]? = some o) : decide ((spanOf x.s i).1 = 0 ∧ (spanOf x.s i).2 = 0) = o.isNone := by
  cases o with
  | none => simp [spanOf, h]
  | some b =>
    have := k.pos (i + 1)
    simp [spanOf, h]
    omega
set_option maxRecDepth 100000 in
theorem slot_empty (k : x.Ok) {i : Nat} {o : Rec} (h : x.s[i]? = some o) (w : World) : Calls Try.prog 62 #[spanV (spanOf x.s i)] w fun e w' => e = .returned (.bool o.isNone) ∧ Fr (fun _ => False) w w' := by
  rw [← span_empty k h]
  exact empty_any w _ _
/-- What a slot has, as a value. -/
def cellV (P : Nat) (s : List Rec) (i : Nat) : Value := match s[i]? with
  | some (some _) => .agg #[.bool true, partV P (512 - tot (s.take (i + 1))) (512 - tot (s.take i))]
  | _ => .agg #[.bool false, .slice none 0 0]
set_option maxRecDepth 100000 in
theorem set_two {w w' : World} {b : Nat} {t : TypeId} {u0 u1 v0 v1 : Value} (h : Blk w b t #[u0, u1]) : Blk ((w.setCell ⟨b, 0, none⟩ v0).setCell ⟨b, 1, none⟩ v1) b t #[v0, v1] := (h.set_ 0 v0).set_ 1 v1
set_option maxRecDepth 100000 in
theorem cellOf_none (h : PW w P x) (k : x.Ok) {i : Nat} (hi : x.s[i]? = some none) : Calls Try.prog 67 #[.pointer (some ⟨P, 0, none⟩), .int .i64 i] w fun e w' => e = .returned (cellV P x.s i) ∧ Fr (fun _ => False) w w' := by
  have hv : cellV P x.s i = .agg #[.bool false, .slice none 0 0] := by simp [cellV, hi]
  have hs : spanOf x.s i = (0, 0) := by simp [spanOf, hi]
  rw [hv]
  have f0 := (Fr.refl (fun _ => False) w).alloc (.cells #[.bool false, .slice none 0 0] 70)
  have hb0 := Blk.new w 70 #[.bool false, .slice none 0 0]
  have HS := spanOf_any (h.new f0) k (List.getElem?_eq_some_iff.1 hi).1
  rw [hs] at HS
  have HE : Hid (∀ w, Calls Try.prog 62 #[.agg #[.int .i64 0, .int .i64 0]] w fun e w' => e = .returned (.bool true) ∧ Fr (fun _ => False) w w') := Lib.hid fun w => by
    have := slot_empty k hi w
    rw [hs] at this
    exact this
  have HB := Lib.hid (And.intro hb0 f0)
  clear h k hi hv hs hb0 f0
  unfold spanV at HS
  go_enter Try.func67, Try.ntmps67
  go_wp2_with fail
  refine HS.mono ?_
  rintro e w1 ⟨rfl, f1⟩
  have hb1 := HB.out.1.keep f1 (fun q => q)
  have HF1 := Lib.hid (HB.out.2.trans f1 (fun _ _ q => q))
  have f2 := (Fr.refl (fun _ => False) w1).alloc (.cells #[.int .i64 0, .int .i64 0] 90)
  have HB2 := Lib.hid (hb1.keep f2 (fun q => q))
  have HF2 := Lib.hid (HF1.out.trans f2 (fun _ _ q => q))
  clear HS hb1 f1 f2 HB
  go_wp2_with fail
  refine (HE.out _).mono ?_
  rintro e w2 ⟨rfl, f2⟩
  have hb2 := HB2.out.keep f2 (fun q => q)
  have c0 := hb2.cell 0
  have c1 := hb2.cell 1
  have r0 := hb2.frozen 0
  have r1 := hb2.frozen 1
  have k1 := (hb2.set_ 0 (.bool false)).cell 1
  have k2 := (hb2.set_ 0 (.bool false)).frozen 1
  simp at c0 c1 k1
  have HE2 := Lib.hid (And.intro (set_two (w' := w2) (v0 := .bool false) (v1 := .slice none 0 0) hb2) (((HF2.out.trans f2 (fun _ _ q => q)).setCell (p := ⟨w.heap.size, 0, none⟩) (.inr (Nat.le_refl _)) (.bool false)).setCell (p := ⟨w.heap.size, 1, none⟩) (.inr (Nat.le_refl _)) (.slice none 0 0)))
  clear hb2 f2 HB2 HF2 HF1 HE
  go_wp2_with fail
  refine bodyPost_ret (results_cell_row rfl _ _ w.heap.size 70 #[.bool false, .slice none 0 0] (0, 0) _ rfl HE2.out.1 Try.underlying70 rfl (by rw [infoCell]; rfl)) rfl ⟨rfl, HE2.out.2⟩
set_option maxRecDepth 100000 in
theorem cellOf_some (h : PW w P x) (k : x.Ok) {i : Nat} {b : List UInt8} (hi : x.s[i]? = some (some b)) : Calls Try.prog 67 #[.pointer (some ⟨P, 0, none⟩), .int .i64 i] w fun e w' => e = .returned (cellV P x.s i) ∧ Fr (fun _ => False) w w' := by
  have hv : cellV P x.s i = .agg #[.bool true, partV P (512 - tot (x.s.take (i + 1))) (512 - tot (x.s.take i))] := by simp [cellV, hi]
  have hs : spanOf x.s i = (512 - tot (x.s.take (i + 1)), b.length) := by simp [spanOf, hi]
  have h1 := tot_snoc hi
  have h2 := tot_take_le x.s (i + 1)
  have h3 := k.sz
  simp only [rl, Option.getD_some] at h1
  rw [hv]
  have f0 := (Fr.refl (fun _ => False) w).alloc (.cells #[.bool false, .slice none 0 0] 70)
  have hb0 := Blk.new w 70 #[.bool false, .slice none 0 0]
  have HS := spanOf_any (h.new f0) k (List.getElem?_eq_some_iff.1 hi).1
  rw [hs] at HS
  obtain ⟨o, ho⟩ : ∃ o, o = 512 - tot (x.s.take (i + 1)) := ⟨_, rfl⟩
  obtain ⟨p, hp⟩ : ∃ p, p = 512 - tot (x.s.take i) := ⟨_, rfl⟩
  obtain ⟨n, hn⟩ : ∃ n, n = b.length := ⟨_, rfl⟩
  have hop : p = o + n := by omega
  have hp512 : p ≤ 512 := by omega
  have HE : Hid (∀ w, Calls Try.prog 62 #[.agg #[.int .i64 o, .int .i64 n]] w fun e w' => e = .returned (.bool false) ∧ Fr (fun _ => False) w w') := Lib.hid fun w => by
    have := slot_empty k hi w
    rw [hs, ← ho, ← hn] at this
    exact this
  rw [← ho, ← hp]
  rw [← ho, ← hn] at HS
  have HB := Lib.hid (And.intro hb0 f0)
  have HO := Lib.hid hop
  clear h k hi hv hs hb0 f0 h1 h2 h3 ho hp hn
  unfold spanV at HS
  subst hop
  have hsl : ∀ W, (Instr.sliceAt 26 (.pointer (some ⟨P, 0, none⟩)) (some (.int .i64 o)) (some (.int .i64 (o + n : Int))) (some (.int .i64 (o + n : Int)))).run Try.prog W = .ok (partV P o (o + n)) W := page_lhm P rfl (by omega) (by omega) hp512
  obtain ⟨q, hq⟩ : ∃ q, partV P o (o + n) = .slice (some ⟨P, q, none⟩) n n := ⟨_, by unfold partV; rw [Nat.add_sub_cancel_left]⟩
  rw [hq] at hsl ⊢
  clear hq
  go_enter Try.func67, Try.ntmps67
  go_wp2_with fail
  refine HS.mono ?_
  rintro e w1 ⟨rfl, f1⟩
  have hb1 := HB.out.1.keep f1 (fun q => q)
  have HF1 := Lib.hid (HB.out.2.trans f1 (fun _ _ q => q))
  have f2 := (Fr.refl (fun _ => False) w1).alloc (.cells #[.int .i64 o, .int .i64 n] 90)
  have HB2 := Lib.hid (And.intro (hb1.keep f2 (fun q => q)) (Blk.new w1 90 #[.int .i64 o, .int .i64 n]))
  have HF2 := Lib.hid (HF1.out.trans f2 (fun _ _ q => q))
  clear HS hb1 f1 f2 HB
  go_wp2_with fail
  refine (HE.out _).mono ?_
  rintro e w2 ⟨rfl, f2⟩
  have hb2 := HB2.out.1.keep f2 (fun q => q)
  have hsp := HB2.out.2.keep f2 (fun q => q)
  have c0 := hsp.cell 0
  have c1 := hsp.cell 1
  simp at c0 c1
  have HF3 := Lib.hid (HF2.out.trans f2 (fun _ _ q => q))
  have HB3 := Lib.hid (And.intro hb2 hsp)
  clear hb2 hsp f2 HB2 HF2 HF1 HE
  go_upto_region 5 with (fail)
  refine wp_region_held_drew (S := fun w' => Fr (fun _ => False) w w' ∧ Blk w' w1.heap.size 90 #[.int .i64 o, .int .i64 n] ∧ ∃ y0 y1 : Value, Blk w' w.heap.size 70 #[y0, y1]) (by kernel_rfl) (⟨HF3.out.drew, HB3.out.2, _, _, HB3.out.1⟩) (fun hS0 => ?_)
  refine anyH_take 0 18 (.pointer (some ⟨P, 0, none⟩)) rfl rfl (by kernel_rfl) (by kernel_rfl) (by kernel_rfl) (fun _ _ _ h => h) (.inl ⟨by rfl, fun w'' hS => by go_simp⟩) hS0 ?_
  (simp only [List.setIfInBounds_toArray, List.set_cons_zero, List.set_cons_succ])
  refine anyH_take 1 19 (.pointer (some ⟨P, 0, none⟩)) rfl rfl (by kernel_rfl) (by kernel_rfl) (by kernel_rfl) (fun _ _ _ h => h) (.inl ⟨by rfl, fun w'' hS => by go_simp⟩) hS0 ?_
  (simp only [List.setIfInBounds_toArray, List.set_cons_zero, List.set_cons_succ])
  refine anyH_take 2 20 (.pointer (some ⟨w1.heap.size, 0, none⟩)) rfl rfl (by kernel_rfl) (by kernel_rfl) (by kernel_rfl) (fun _ _ _ h => h) (.inl ⟨by rfl, fun w'' hS => by go_simp⟩) hS0 ?_
  (simp only [List.setIfInBounds_toArray, List.set_cons_zero, List.set_cons_succ])
  refine anyH_take 3 21 (.int .i64 o) rfl rfl (by kernel_rfl) (by kernel_rfl) (by kernel_rfl) (fun _ _ _ h => h) (.inl ⟨by rfl, fun w'' hS => by have q0 := hS.2.1.cell 0; simp at q0; go_simp⟩) hS0 ?_
  (simp only [List.setIfInBounds_toArray, List.set_cons_zero, List.set_cons_succ])
  refine anyH_take 4 22 (.int .i64 (o + n : Int)) rfl rfl (by kernel_rfl) (by kernel_rfl) (by kernel_rfl) (fun _ _ _ h => h) (.inl ⟨by rfl, fun w'' hS => by go_simp⟩) hS0 ?_
  (simp only [List.setIfInBounds_toArray, List.set_cons_zero, List.set_cons_succ])
  refine anyH_take 5 23 (.int .i64 (o + n : Int)) rfl rfl (by kernel_rfl) (by kernel_rfl) (by kernel_rfl) (fun _ _ _ h => h) (.inl ⟨by rfl, fun w'' hS => by go_simp⟩) hS0 ?_
  (simp only [List.setIfInBounds_toArray, List.set_cons_zero, List.set_cons_succ])
  refine anyH_take 6 24 (.slice (some ⟨P, q, none⟩) n n) rfl rfl (by kernel_rfl) (by kernel_rfl) (by kernel_rfl) (fun _ _ _ h => h) (.inl ⟨by rfl, fun w'' hS => by have q0 := hsl w''; go_simp⟩) hS0 ?_
  (simp only [List.setIfInBounds_toArray, List.set_cons_zero, List.set_cons_succ])
  refine anyH_take 7 25 (.agg #[.bool true, .slice (some ⟨P, q, none⟩) n n]) rfl rfl (by kernel_rfl) (by kernel_rfl) (by kernel_rfl) (fun _ _ _ h => h) (.inl ⟨by rfl, fun w'' hS => by go_simp⟩) hS0 ?_
  (simp only [List.setIfInBounds_toArray, List.set_cons_zero, List.set_cons_succ])
  obtain ⟨y0, y1, hb0⟩ := hS0.2.2
  have hne : w.heap.size ≠ w1.heap.size := fun e => (Blk.ne_ hb0 hS0.2.1 (by decide)) e
  refine anyH_skip 8 _ (by kernel_rfl) rfl rfl (by rfl) (run_store_mid 70 _ _ rfl w.heap.size 0 #[.bool true, .slice (some ⟨P, q, none⟩) n n] rfl rfl (hb0.there (by simp)) (by rw [infoCell]; rfl) (all_oneCell_toArray (cs := [.bool true, .slice (some ⟨P, q, none⟩) n n]) (by intro u hu; simp at hu; rcases hu with rfl | rfl <;> rfl))) ⟨Fr.setCells (.inr (Nat.le_refl _)) hS0.1, (hS0.2.1.keep ((Fr.refl (fun b => b = w.heap.size) _).setCell (p := ⟨w.heap.size, 0, none⟩) (.inl rfl) (.bool true)) (fun e => hne e.symm)).keep ((Fr.refl (fun b => b = w.heap.size) _).setCell (p := ⟨w.heap.size, 1, none⟩) (.inl rfl) (.slice (some ⟨P, q, none⟩) n n)) (fun e => hne e.symm), _, _, (hb0.set_ 0 _).set_ 1 _⟩ ?_
  refine wpAnyH_done (by kernel_rfl) ?_ _
  have HE2 := Lib.hid (And.intro ((hb0.set_ 0 (.bool true)).set_ 1 (.slice (some ⟨P, q, none⟩) n n)) (Fr.setCells (F := fun _ => False) (vs := [.bool true, .slice (some ⟨P, q, none⟩) n n]) (o := 0) (.inr (Nat.le_refl _)) hS0.1))
  go_wp2_with fail
  refine bodyPost_ret (results_cell_row rfl _ _ w.heap.size 70 #[.bool true, .slice (some ⟨P, q, none⟩) n n] (0, 0) _ rfl HE2.out.1 Try.underlying70 rfl (by rw [infoCell]; rfl)) rfl ⟨rfl, HE2.out.2⟩
set_option maxRecDepth 100000 in
theorem cellOf_any (h : PW w P x) (k : x.Ok) {i : Nat} (hi : i < x.s.length) : Calls Try.prog 67 #[.pointer (some ⟨P, 0, none⟩), .int .i64 i] w fun e w' => e = .returned (cellV P x.s i) ∧ Fr (fun _ => False) w w' := by
  obtain ⟨o, ho⟩ : ∃ o, x.s[i]? = some o := ⟨_, List.getElem?_eq_getElem hi⟩
  cases o with
  | none => exact cellOf_none h k ho
  | some b => exact cellOf_some h k ho
end
end Go.Proofs.Ytijdbngjnhhheaa
