/- number: Nth, All. -/
import Derived.Test.YtchofmncinbmcaaNpp
import Derived.Maps.OwnIn
import Derived.Test.YtchofmncinbmcaaNra
namespace Go.Proofs.Ytchofmncinbmcaa
open Go.RowKit
attribute [local go_sem] Oper.semAt_some

/-- What Nth answers. -/
def nthE (c f k i : Int) : Int := if mayS c f k then if 0 ≤ i ∧ i < k then 0 else 12 else 2
def nthN (c f k i : Int) : Nat := if nthE c f k i = 0 then makeN c (f + i) else 0
theorem nth_may {c f k i : Int} (h : nthE c f k i = 0) : mayS c f k = true ∧ 0 ≤ i ∧ i < k ∧ mayCS c (f + i) = true := by
  unfold nthE at h
  split at h
  · rename_i hm
    split at h
    · rename_i hi
      refine ⟨hm, hi.1, hi.2, ?_⟩
      unfold mayS at hm
      unfold mayCS
      rw [decide_eq_true_eq] at hm ⊢
      omega
    · cases h
  · cases h
set_option maxRecDepth 100000 in
theorem nnth_any (c f k i : Int) (hr : InR f k) (w : World) : Calls Try.prog 23 #[stV c f k, .int .i64 i] w fun e w' => e = .returned (.tuple #[.int .u64 (nthN c f k i : Nat), .int .i64 (nthE c f k i)]) ∧ Fr (fun _ => False) w w' := by
  obtain ⟨W0, hW0⟩ : ∃ W0, W0 = w.alloc (.cells #[.int .i64 c, .int .i64 f, .int .i64 k] 43) := ⟨_, rfl⟩
  have f0 : Fr (fun _ => False) w W0 := by rw [hW0]; exact (Fr.refl _ w).alloc _
  have hb0 : Blk W0 w.heap.size 43 #[.int .i64 c, .int .i64 f, .int .i64 k] := by rw [hW0]; exact Blk.new w _ _
  have hr0 : W0.rangeAt w.heap.size 0 [.int .i64 c, .int .i64 f, .int .i64 k] := fun i u hi => by rw [hb0.cell, Nat.zero_add]; simpa using hi
  have HM := Lib.hid (nmayst_any c f k hr W0)
  have HK := Lib.hid (fun W => nmake_any c (f + i) W)
  obtain ⟨e0, he0⟩ : ∃ e0, e0 = nthE c f k i := ⟨_, rfl⟩
  obtain ⟨x, hx⟩ : ∃ x, x = nthN c f k i := ⟨_, rfl⟩
  unfold nthN at hx
  rw [← he0] at hx
  have hx2 : x = nthN c f k i := by unfold nthN; rw [← he0]; exact hx
  rw [← he0, ← hx2]
  clear hx2
  have H0 := Lib.hid (And.intro f0 hb0)
  have HE := Lib.hid he0
  unfold nthE at he0
  by_cases hm : mayS c f k = true
  · rw [hm] at he0 HM
    rw [if_pos rfl] at he0
    have hms := hm
    unfold mayS at hms
    rw [decide_eq_true_eq] at hms
    by_cases hi : 0 ≤ i
    · by_cases hk : i < k
      · rw [if_pos ⟨hi, hk⟩] at he0
        subst he0
        rw [if_pos rfl] at hx
        have hcs := (nth_may (c := c) (f := f) (k := k) (i := i) HE.out.symm).2.2.2
        have hme : makeE c (f + i) = 0 := by unfold makeE; rw [if_pos hcs]
        rw [hme, ← hx] at HK
        have w1 : IntKind.i64.wrap (f + i) = f + i := by simp [IntKind.wrap, IntKind.signed, IntKind.bits]; omega
        have w2 : wrap64 (f + i) = f + i := by unfold wrap64; omega
        obtain ⟨h5, h6⟩ : f + i ≤ 1000000000 ∧ 0 ≤ f := by omega
        clear hx hcs hme hm hms f0 hb0 hr
        go_enter Try.func23, Try.ntmps23
        subst hW0
        go_wp2_with (refine wpList_load_mid rfl 43 _ rfl w.heap.size 0 rfl [.int .i64 c, .int .i64 f, .int .i64 k] _ hr0 Try.underlying43 rfl (by kernel_rfl) ?_)
        refine HM.out.mono ?_
        rintro e w1 ⟨rfl, f1⟩
        have hb1 := H0.out.2.keep f1 (fun q => q)
        have q0 : w1.cell? ⟨w.heap.size, 0, none⟩ = some (.int .i64 c) := by rw [hb1.cell]; rfl
        have q1 : w1.cell? ⟨w.heap.size, 1, none⟩ = some (.int .i64 f) := by rw [hb1.cell]; rfl
        have q2 : w1.cell? ⟨w.heap.size, 2, none⟩ = some (.int .i64 k) := by rw [hb1.cell]; rfl
        have H2 := Lib.hid (H0.out.1.trans f1 (fun _ _ q => q))
        clear f1 hb1 HM hr0
        go_wp2_with fail
        refine (HK.out w1).mono ?_
        rintro e w2 ⟨rfl, rfl⟩
        go_wp2_with fail
        go_ret2
        exact ⟨rfl, H2.out⟩
      · rw [if_neg (fun q => hk q.2)] at he0
        subst he0
        rw [if_neg (by decide)] at hx
        subst hx
        clear hm hms f0 hb0 hr HK
        go_enter Try.func23, Try.ntmps23
        subst hW0
        go_wp2_with (refine wpList_load_mid rfl 43 _ rfl w.heap.size 0 rfl [.int .i64 c, .int .i64 f, .int .i64 k] _ hr0 Try.underlying43 rfl (by kernel_rfl) ?_)
        refine HM.out.mono ?_
        rintro e w1 ⟨rfl, f1⟩
        have hb1 := H0.out.2.keep f1 (fun q => q)
        have q0 : w1.cell? ⟨w.heap.size, 0, none⟩ = some (.int .i64 c) := by rw [hb1.cell]; rfl
        have q1 : w1.cell? ⟨w.heap.size, 1, none⟩ = some (.int .i64 f) := by rw [hb1.cell]; rfl
        have q2 : w1.cell? ⟨w.heap.size, 2, none⟩ = some (.int .i64 k) := by rw [hb1.cell]; rfl
        have H2 := Lib.hid (H0.out.1.trans f1 (fun _ _ q => q))
        clear f1 hb1 HM hr0
        go_wp2_with fail
        go_ret2
        exact ⟨rfl, H2.out⟩
    · rw [if_neg (fun q => hi q.1)] at he0
      subst he0
      rw [if_neg (by decide)] at hx
      subst hx
      clear hm hms f0 hb0 hr HK
      go_enter Try.func23, Try.ntmps23
      subst hW0
      go_wp2_with (refine wpList_load_mid rfl 43 _ rfl w.heap.size 0 rfl [.int .i64 c, .int .i64 f, .int .i64 k] _ hr0 Try.underlying43 rfl (by kernel_rfl) ?_)
      refine HM.out.mono ?_
      rintro e w1 ⟨rfl, f1⟩
      have hb1 := H0.out.2.keep f1 (fun q => q)
      have q0 : w1.cell? ⟨w.heap.size, 0, none⟩ = some (.int .i64 c) := by rw [hb1.cell]; rfl
      have q1 : w1.cell? ⟨w.heap.size, 1, none⟩ = some (.int .i64 f) := by rw [hb1.cell]; rfl
      have q2 : w1.cell? ⟨w.heap.size, 2, none⟩ = some (.int .i64 k) := by rw [hb1.cell]; rfl
      have H2 := Lib.hid (H0.out.1.trans f1 (fun _ _ q => q))
      clear f1 hb1 HM hr0
      go_wp2_with fail
      go_ret2
      exact ⟨rfl, H2.out⟩
  · rw [Bool.not_eq_true] at hm
    rw [hm] at he0 HM
    rw [if_neg (by decide)] at he0
    subst he0
    rw [if_neg (by decide)] at hx
    subst hx
    clear hm f0 hb0 hr HK
    go_enter Try.func23, Try.ntmps23
    subst hW0
    go_wp2_with (refine wpList_load_mid rfl 43 _ rfl w.heap.size 0 rfl [.int .i64 c, .int .i64 f, .int .i64 k] _ hr0 Try.underlying43 rfl (by kernel_rfl) ?_)
    refine HM.out.mono ?_
    rintro e w1 ⟨rfl, f1⟩
    have hb1 := H0.out.2.keep f1 (fun q => q)
    have q0 : w1.cell? ⟨w.heap.size, 0, none⟩ = some (.int .i64 c) := by rw [hb1.cell]; rfl
    have q1 : w1.cell? ⟨w.heap.size, 1, none⟩ = some (.int .i64 f) := by rw [hb1.cell]; rfl
    have q2 : w1.cell? ⟨w.heap.size, 2, none⟩ = some (.int .i64 k) := by rw [hb1.cell]; rfl
    have H2 := Lib.hid (H0.out.1.trans f1 (fun _ _ q => q))
    clear f1 hb1 HM hr0
    go_wp2_with fail
    go_ret2
    exact ⟨rfl, H2.out⟩
theorem nall_any (c f k : Int) (w : World) : Calls Try.prog 27 #[stV c f k] w fun e w' =>
    e = .returned (.func (.func 39) #[] #[.pointer (some ⟨w.heap.size, 0, none⟩)]) ∧ w' = w.alloc (.cells #[.int .i64 c, .int .i64 f, .int .i64 k] 43) := by
  go_enter Try.func27, Try.ntmps27
  go_wp2_with fail
  go_ret
  exact ⟨rfl, rfl⟩
/-- The i-th that All goes over. -/
abbrev encN (c f : Int) (j : Nat) : Array Value := #[.int .i64 j, .int .u64 (makeN c (f + j) : Nat)]
/-- How many All goes over. -/
def cntS (c f k : Int) : Nat := if mayS c f k then k.toNat else 0
theorem nth_in {c f k : Int} {j : Nat} : nthE c f k j = 0 ↔ j < cntS c f k := by
  unfold nthE cntS
  by_cases hm : mayS c f k = true
  · rw [if_pos hm, if_pos hm]
    by_cases q : 0 ≤ (j : Int) ∧ (j : Int) < k
    · rw [if_pos q]
      omega
    · rw [if_neg q]
      omega
  · rw [if_neg hm, if_neg hm]
    omega
set_option maxRecDepth 100000 in
set_option maxHeartbeats 4000000 in
theorem all1_in (F : Nat → Prop) (l B : Nat) (c f k : Int) (hr : InR f k) (J Jx : List Nat → World → Prop)
    (hJ : ∀ s W W', J s W → W.grownBy W' none → J s W')
    (hY : ∀ pre x W, J pre W → pre.length < cntS c f k → YieldAt Fence.wide 8 Try.prog l (encN c f x) W fun e W' =>
      (e = .returned (.bool true) ∧ J (pre ++ [x]) W' ∧ Fr F W W') ∨ (e = .returned (.bool false) ∧ Jx (pre ++ [x]) W'))
    (W : World) (hB : ¬ F B) (hb : Blk W B 43 #[.int .i64 c, .int .i64 f, .int .i64 k]) (h0 : J [] W) :
    CallsIn Fence.wide 9 Try.prog 39 #[.func (.yield l) #[] #[], .pointer (some ⟨B, 0, none⟩)] W fun e W' => (∃ v, e = .returned v) ∧
      ((∃ ys, ys = List.range (cntS c f k) ∧ J ys W') ∨ (∃ pre, (∃ j, j ≤ cntS c f k ∧ pre = List.range j) ∧ Jx pre W')) := by
  obtain ⟨N, hN⟩ : ∃ N, N = cntS c f k := ⟨_, rfl⟩
  have HNT : Hid (∀ j : Nat, nthE c f k j = 0 ↔ j < N) := Lib.hid fun j => by rw [hN]; exact nth_in
  rw [← hN] at hY ⊢
  have HN1 : Hid (N ≤ 1000000000) := Lib.hid (by
    rw [hN]
    unfold cntS
    split
    · rename_i hm
      unfold mayS at hm
      rw [decide_eq_true_eq] at hm
      omega
    · omega)
  clear hN
  refine callsIn_of_wp Try.func39 rfl trivial ?_ rfl
  simp only [Try.ntmps39, List.size_toArray, List.length_cons, List.length_nil, Nat.reduceAdd, Nat.reduceSub, Array.replicate_succ, Array.replicate_zero, List.push_toArray, List.append_toArray, List.nil_append, List.cons_append]
  have HB := Lib.hid hb
  have HR := Lib.hid hr
  clear hb hr
  gi_wp2
  gi_loopw [3] (fun i wr => ∃ j : Nat, j ≤ N ∧ i = .int .i64 j ∧ J (List.range j) wr ∧ Fr F W wr)
    (fun i _ => N - (intOf i).toNat)
  case atStart => exact ⟨0, Nat.zero_le _, rfl, h0, Fr.refl _ _⟩
  case round =>
    obtain ⟨j, hj, rfl, hJs, hnx⟩ := hrel
    have hbw := HB.out.keep hnx hB
    have hrw : wr.rangeAt B 0 [.int .i64 c, .int .i64 f, .int .i64 k] := fun i u hi => by rw [hbw.cell, Nat.zero_add]; simpa using hi
    have HNN := Lib.hid (nnth_any c f k j HR.out wr)
    have HJ := Lib.hid (And.intro hJs hnx)
    have hjb : (j : Int) ≤ 1000000000 := by have := HN1.out; omega
    obtain ⟨x, hx⟩ : ∃ x, x = nthN c f k j := ⟨_, rfl⟩
    rw [← hx] at HNN
    by_cases hlt : j < N
    · have he := (HNT.out j).2 hlt
      unfold nthN at hx
      rw [if_pos he] at hx
      rw [he] at HNN
      have HX := Lib.hid (And.intro hx hlt)
      clear hx he hJs hnx hbw hlt
      gi_wp2_with (refine wpListIn_load_mid rfl 43 _ rfl B 0 rfl [.int .i64 c, .int .i64 f, .int .i64 k] _ hrw Try.underlying43 rfl (by kernel_rfl) ?_)
      refine ⟨trivial, (callsIn_wide.2 HNN.out).mono ?_⟩
      rintro e w2 ⟨rfl, hf⟩
      have hJ2 := hJ _ _ _ HJ.out.1 hf.grow
      obtain ⟨fn, tmps, assign, body, hy, hR⟩ := hY (List.range j) j w2 hJ2 (by rw [List.length_range]; exact HX.out.2)
      have hk2 : Fr F W w2 := HJ.out.2.trans hf (fun _ _ q => q.elim)
      rw [encN, ← HX.out.1] at hy
      clear hJ2 HNN hrw
      gi_wp2
      refine hR.mono ?_
      rintro e W3 (⟨rfl, hJ3, hk3⟩ | ⟨rfl, hJx3⟩)
      · gi_wp2
        go_roundw
        case rel => exact ⟨j + 1, by have := HX.out.2; omega, by simp, by rw [List.range_succ]; exact hJ3, hk2.trans hk3 (fun _ _ q => q)⟩
        case measure => simp [intOf]; have := HX.out.2; omega
      · gi_wp2
        refine bodyPost_ret (results_none rfl _ _ _) rfl ?_
        exact ⟨⟨_, rfl⟩, .inr ⟨_, ⟨j + 1, by have := HX.out.2; omega, List.range_succ.symm⟩, hJx3⟩⟩
    · obtain rfl : j = N := by omega
      have hne : nthE c f k j ≠ 0 := fun q => hlt ((HNT.out j).1 q)
      obtain ⟨e9, he9⟩ : ∃ e9, e9 = nthE c f k j := ⟨_, rfl⟩
      rw [← he9] at HNN hne
      have hb : (e9 != 0) = true := by rw [bne_iff_ne]; exact hne
      clear hx he9 hne hJs hnx hbw hlt
      gi_wp2_with (refine wpListIn_load_mid rfl 43 _ rfl B 0 rfl [.int .i64 c, .int .i64 f, .int .i64 k] _ hrw Try.underlying43 rfl (by kernel_rfl) ?_)
      refine ⟨trivial, (callsIn_wide.2 HNN.out).mono ?_⟩
      rintro e w2 ⟨rfl, hf⟩
      have HJ2 := Lib.hid (hJ _ _ _ HJ.out.1 hf.grow)
      clear hf
      gi_wp2
      all_goals
        rename_i K0 hK0 x1 x2 x3 x4
        refine ⟨fun f hf => (by cases hf), hK0 _ _ ?_⟩
        clear hK0 x4
        gi_wp2
        refine bodyPost_ret (results_none rfl _ _ _) rfl ?_
        exact ⟨⟨_, rfl⟩, .inl ⟨_, rfl, HJ2.out⟩⟩
theorem all_stops (F : Nat → Prop) (B : Nat) (c f k : Int) (hr : InR f k) (w : World) (hB : ¬ F B) (hb : Blk w B 43 #[.int .i64 c, .int .i64 f, .int .i64 k]) :
    SeqStopsK Fence.wide 9 Try.prog 39 #[.pointer (some ⟨B, 0, none⟩)] (encN c f) (Fr F) (fun ys => ys = List.range (cntS c f k)) (fun pre => ∃ j, j ≤ cntS c f k ∧ pre = List.range j) (cntS c f k) w := fun l J Jx W hW hJ _ hY hj => by
  have hf : Fr (fun _ => False) w W := Fr.of_below hW
  exact all1_in F l B c f k hr J Jx (fun s A B hsA hg => hJ s A B none hsA hg (fun r e => by cases e)) hY W hB (hb.keep hf (fun q => q)) hj
end Go.Proofs.Ytchofmncinbmcaa
