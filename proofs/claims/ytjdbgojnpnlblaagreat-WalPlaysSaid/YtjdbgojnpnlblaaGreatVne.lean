/- wal: the next head, the one without records; Need; fits. -/
import Derived.Test.YtjdbgojnpnlblaaGreatVho
namespace Go.Proofs.YtjdbgojnpnlblaaGreat
open Go.RowKit

abbrev maxC : Nat := 4611686018427387904
set_option maxRecDepth 100000 in
set_option maxHeartbeats 1000000 in
theorem next_any (w : World) (c s : Nat) (hc : c < maxC) (hs : s ≤ maxC) : Calls Tryz.prog 38 #[hV c s] w fun e w' => e = .returned (.tuple #[hV (c + 1) s, .int .i64 0]) ∧ Fr (fun _ => False) w w' := by
  have hne : ¬ ((c : Int) = 4611686018427387904) := by unfold maxC at hc; omega
  have HC := Lib.hid (And.intro hc hs)
  clear hc hs
  go_enter Tryz.func38, Tryz.ntmps38
  obtain ⟨W, hW, k0, k1, hsz, hfr⟩ := alloc2 w #[.int .u64 (c : Nat), .int .u64 (s : Nat)] #[.int .u64 0, .int .u64 0] 78 78
  have c0 := k0.cell 0
  have c1 := k0.cell 1
  have d0 := k1.cell 0
  have d1 := k1.cell 1
  have f0 := k1.frozen 0
  have f1 := k1.frozen 1
  simp at c0 c1 d0 d1
  have HK := Lib.hid (And.intro k0 (And.intro k1 (And.intro hsz hfr)))
  clear k0 k1 hsz hfr
  have hov : ((c : Int) + 1) % 18446744073709551616 = ((c + 1 : Nat) : Int) := by have := HC.out.1; unfold maxC at this; omega
  rw [hW] at c0 c1 d0 d1 f0 f1
  go_wp2_with fail
  refine bodyPost_ret (results_hd2 rfl _ _ (w.heap.size + 1) (c + 1) s (.int .i64 0) rfl rfl ?_) rfl ?_
  · have := Blk.new (w.alloc (.cells #[.int .u64 (c : Nat), .int .u64 (s : Nat)] 78)) 78 #[.int .u64 ((c + 1) : Nat), .int .u64 (s : Nat)]
    simpa using this
  · exact ⟨rfl, ((Fr.refl _ w).alloc _).alloc _⟩
set_option maxRecDepth 100000 in
set_option maxHeartbeats 1000000 in
theorem next_full (w : World) (s : Nat) : Calls Tryz.prog 38 #[hV maxC s] w fun e w' => e = .returned (.tuple #[hV 0 0, .int .i64 8]) ∧ Fr (fun _ => False) w w' := by
  obtain ⟨c, hc⟩ : ∃ c : Nat, c = maxC := ⟨_, rfl⟩
  rw [← hc]
  have hne : (c : Int) = 4611686018427387904 := by rw [hc]; rfl
  clear hc
  go_enter Tryz.func38, Tryz.ntmps38
  obtain ⟨W, hW, k0, k1, hsz, hfr⟩ := alloc2 w #[.int .u64 (c : Nat), .int .u64 (s : Nat)] #[.int .u64 0, .int .u64 0] 78 78
  have c0 := k0.cell 0
  have c1 := k0.cell 1
  have d0 := k1.cell 0
  have d1 := k1.cell 1
  have f0 := k1.frozen 0
  have f1 := k1.frozen 1
  simp at c0 c1 d0 d1
  have HK := Lib.hid (And.intro k0 (And.intro k1 (And.intro hsz hfr)))
  clear k0 k1 hsz hfr
  rw [hW] at c0 c1 d0 d1 f0 f1
  go_wp2_with fail
  refine bodyPost_ret (results_hd2 rfl _ _ (w.heap.size + 1) 0 0 (.int .i64 8) rfl rfl ?_) rfl ?_
  · have := Blk.new (w.alloc (.cells #[.int .u64 (c : Nat), .int .u64 (s : Nat)] 78)) 78 #[.int .u64 (0 : Nat), .int .u64 (0 : Nat)]
    rw [← hne]
    simpa using this
  · exact ⟨rfl, ((Fr.refl _ w).alloc _).alloc _⟩
set_option maxRecDepth 100000 in
set_option maxHeartbeats 1000000 in
theorem trunc_any (w : World) (c s : Nat) (hc : c < maxC) (hs : s ≤ maxC) : Calls Tryz.prog 64 #[hV c s] w fun e w' => e = .returned (.tuple #[hV (c + 1) (c + 1), .int .i64 0]) ∧ Fr (fun _ => False) w w' := by
  have HC := Lib.hid (And.intro hc hs)
  clear hc hs
  go_enter Tryz.func64, Tryz.ntmps64
  obtain ⟨W, hW, k0, k1, hsz, hfr⟩ := alloc2 w #[.int .u64 (c : Nat), .int .u64 (s : Nat)] #[.int .u64 0, .int .u64 0] 78 78
  have c0 := k0.cell 0
  have c1 := k0.cell 1
  have d0 := k1.cell 0
  have d1 := k1.cell 1
  have f0 := k1.frozen 0
  have f1 := k1.frozen 1
  simp at c0 c1 d0 d1
  have HK := Lib.hid (And.intro k0 (And.intro k1 (And.intro hsz hfr)))
  clear k0 k1 hsz hfr
  have HC0 : Hid (∀ w1, Calls Tryz.prog 38 #[hV c s] w1 fun e w' => e = .returned (.tuple #[hV (c + 1) s, .int .i64 0]) ∧ Fr (fun _ => False) w1 w') := Lib.hid fun w1 => next_any w1 c s HC.out.1 HC.out.2
  rw [hW] at c0 c1 d0 d1 f0 f1
  go_wp2_with fail
  refine (HC0.out _).mono ?_
  rintro e w2 ⟨rfl, hf2⟩
  rw [← hW] at hf2
  have m1 := HK.out.2.1.keep hf2 (fun q => q)
  have hz2 : w.heap.size + 2 ≤ w2.heap.size := by have := HK.out.2.2.1; have := hf2.size; omega
  have H2 := Lib.hid (And.intro m1 (HK.out.2.2.2.trans hf2 (fun _ _ q => q)))
  have m2 := m1.keep ((Fr.refl (fun _ => False) w2).alloc (.cells #[.int .u64 ((c : Int) + 1), .int .u64 ((c : Int) + 1)] 78)) (fun q => q)
  have e0 := m2.cell 0
  have e1 := m2.cell 1
  have u0 := m2.frozen 0
  have u1 := m2.frozen 1
  simp at e0 e1
  clear m2
  clear m1 hf2 c0 c1 d0 d1 f0 f1
  go_wp2_with fail
  refine bodyPost_ret (results_hd2 rfl _ _ (w.heap.size + 1) (c + 1) (c + 1) (.int .i64 0) rfl rfl ?_) rfl ?_
  · have q := ((H2.out.1.keep ((Fr.refl (fun _ => False) w2).alloc (.cells #[.int .u64 ((c : Int) + 1), .int .u64 ((c : Int) + 1)] 78)) (fun q => q)).set_ 0 (.int .u64 ((c + 1) : Nat))).set_ 1 (.int .u64 ((c + 1) : Nat))
    simpa using q
  · exact ⟨rfl, (((H2.out.2.alloc _).setCell (p := ⟨w.heap.size + 1, 0, none⟩) (.inr (Nat.le_succ _)) _).setCell (p := ⟨w.heap.size + 1, 1, none⟩) (.inr (Nat.le_succ _)) _)⟩
set_option maxRecDepth 100000 in
set_option maxHeartbeats 1000000 in
theorem trunc_full (w : World) (c s : Nat) (hc : c = maxC) : Calls Tryz.prog 64 #[hV c s] w fun e w' => e = .returned (.tuple #[hV 0 0, .int .i64 8]) ∧ Fr (fun _ => False) w w' := by
  have HCE := Lib.hid hc
  clear hc
  go_enter Tryz.func64, Tryz.ntmps64
  obtain ⟨W, hW, k0, k1, hsz, hfr⟩ := alloc2 w #[.int .u64 (c : Nat), .int .u64 (s : Nat)] #[.int .u64 0, .int .u64 0] 78 78
  have c0 := k0.cell 0
  have c1 := k0.cell 1
  have d0 := k1.cell 0
  have d1 := k1.cell 1
  have f0 := k1.frozen 0
  have f1 := k1.frozen 1
  simp at c0 c1 d0 d1
  have HK := Lib.hid (And.intro k0 (And.intro k1 (And.intro hsz hfr)))
  clear k0 k1 hsz hfr
  have HC0 : Hid (∀ w1, Calls Tryz.prog 38 #[hV c s] w1 fun e w' => e = .returned (.tuple #[hV 0 0, .int .i64 8]) ∧ Fr (fun _ => False) w1 w') := Lib.hid fun w1 => (by rw [HCE.out]; exact next_full w1 s)
  rw [hW] at c0 c1 d0 d1 f0 f1
  go_wp2_with fail
  refine (HC0.out _).mono ?_
  rintro e w2 ⟨rfl, hf2⟩
  rw [← hW] at hf2
  have m1 := HK.out.2.1.keep hf2 (fun q => q)
  have hz2 : w.heap.size + 2 ≤ w2.heap.size := by have := HK.out.2.2.1; have := hf2.size; omega
  have H2 := Lib.hid (And.intro m1 (HK.out.2.2.2.trans hf2 (fun _ _ q => q)))
  have m2 := m1.keep ((Fr.refl (fun _ => False) w2).alloc (.cells #[.int .u64 0, .int .u64 0] 78)) (fun q => q)
  have e0 := m2.cell 0
  have e1 := m2.cell 1
  have u0 := m2.frozen 0
  have u1 := m2.frozen 1
  simp at e0 e1
  clear m2
  clear m1 hf2 c0 c1 d0 d1 f0 f1
  go_wp2_with fail
  refine bodyPost_ret (results_hd2 rfl _ _ (w.heap.size + 1) 0 0 (.int .i64 8) rfl rfl ?_) rfl ?_
  · have q := ((H2.out.1.keep ((Fr.refl (fun _ => False) w2).alloc (.cells #[.int .u64 0, .int .u64 0] 78)) (fun q => q)).set_ 0 (.int .u64 (0 : Nat))).set_ 1 (.int .u64 (0 : Nat))
    simpa using q
  · exact ⟨rfl, (((H2.out.2.alloc _).setCell (p := ⟨w.heap.size + 1, 0, none⟩) (.inr (Nat.le_succ _)) _).setCell (p := ⟨w.heap.size + 1, 1, none⟩) (.inr (Nat.le_succ _)) _)⟩
end Go.Proofs.YtjdbgojnpnlblaaGreat
