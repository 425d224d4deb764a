/- slices.Repeat of one status. -/
import Derived.Test.YtmopkfjnjbimnaaKpb
import Derived.Laws.CopyRow
import Derived.Laws.MakeOwn
import Derived.Lib.SlBuf
namespace Go.Proofs.Ytmopkfjnjbimnaa
open Go.RowKit

set_option maxRecDepth 100000 in
theorem pmul64_any (N : Nat) (h : N = 1 ∨ N = 2 ∨ N = 3 ∨ N = 4) (w : World) : Calls Try.prog 119 #[.int .u64 1, .int .u64 (N : Nat)] w fun e w' => e = .returned (.tuple #[.int .u64 0, .int .u64 (N : Nat)]) ∧ w' = w := by
  have b0 : bits .and .u64 0 4294967295 = 0 := by decide +kernel
  have b1 : bits .and .u64 1 4294967295 = 1 := by decide +kernel
  have b2 : bits .and .u64 2 4294967295 = 2 := by decide +kernel
  have b3 : bits .and .u64 3 4294967295 = 3 := by decide +kernel
  have b4 : bits .and .u64 4 4294967295 = 4 := by decide +kernel
  have u0 : IntKind.u64.wrap 0 = 0 := by decide +kernel
  have u1 : IntKind.u64.wrap 1 = 1 := by decide +kernel
  have u2 : IntKind.u64.wrap 2 = 2 := by decide +kernel
  have u3 : IntKind.u64.wrap 3 = 3 := by decide +kernel
  have u4 : IntKind.u64.wrap 4 = 4 := by decide +kernel
  rcases h with rfl | rfl | rfl | rfl
  · show Calls Try.prog 119 #[.int .u64 1, .int .u64 1] w fun e w' => e = .returned (.tuple #[.int .u64 0, .int .u64 1]) ∧ w' = w
    go_enter Try.func119, Try.ntmps119
    go_wp2_with fail
    go_ret2
    exact ⟨rfl, rfl⟩
  · show Calls Try.prog 119 #[.int .u64 1, .int .u64 2] w fun e w' => e = .returned (.tuple #[.int .u64 0, .int .u64 2]) ∧ w' = w
    go_enter Try.func119, Try.ntmps119
    go_wp2_with fail
    go_ret2
    exact ⟨rfl, rfl⟩
  · show Calls Try.prog 119 #[.int .u64 1, .int .u64 3] w fun e w' => e = .returned (.tuple #[.int .u64 0, .int .u64 3]) ∧ w' = w
    go_enter Try.func119, Try.ntmps119
    go_wp2_with fail
    go_ret2
    exact ⟨rfl, rfl⟩
  · show Calls Try.prog 119 #[.int .u64 1, .int .u64 4] w fun e w' => e = .returned (.tuple #[.int .u64 0, .int .u64 4]) ∧ w' = w
    go_enter Try.func119, Try.ntmps119
    go_wp2_with fail
    go_ret2
    exact ⟨rfl, rfl⟩
set_option maxRecDepth 100000 in
theorem pmul_any (N : Nat) (h : N = 1 ∨ N = 2 ∨ N = 3 ∨ N = 4) (w : World) : Calls Try.prog 113 #[.int .u64 1, .int .u64 (N : Nat)] w fun e w' => e = .returned (.tuple #[.int .u64 0, .int .u64 (N : Nat)]) ∧ w' = w := by
  have H := Lib.hid (pmul64_any N h w)
  clear h
  go_enter Try.func113, Try.ntmps113
  go_wp2_with fail
  refine H.out.mono ?_
  rintro e w1 ⟨rfl, rfl⟩
  go_wp2_with fail
  go_ret2
  exact ⟨rfl, rfl⟩
theorem run_copy_op {P : Program} {o : Oper} {a : Act} {w w' : World} {v : Value} (d s : Operand) (t : TypeId) (ho : o.op = .call { callee := .builtin .copy, args := #[d, s], argTypes := #[t, t] }) {dv sv : Value} (hd : a.eval d = dv) (hs : a.eval s = sv)
    (h : (Builtin.copy_ #[t, t] o.type #[dv, sv]).run P w = .ok v w') : (execOp a.eval o).run P w = .ok (.value v) w' := by
  unfold execOp
  simp only [ho, resolve, invoke, builtin, Sem.run_bind, Sem.run_pure, Result.andThen_ok, List.map_toArray, List.map_cons, List.map_nil, hd, hs, h]
def repL (k N : Nat) : List Int := List.replicate k 1 ++ List.replicate (N - k) 0
abbrev repC (k N : Nat) : Array Value := ((repL k N).map (Value.int .i64)).toArray
theorem repL_len (k N : Nat) (h : k ≤ N) : (repL k N).length = N := by
  unfold repL
  simp
  omega
theorem make_st (W : World) (N : Nat) (hN : N ≤ 1000) : ∃ W1, (Instr.makeSlice 52 (.int .i64 (N : Nat)) (.int .i64 (N : Nat))).run Try.prog W = .ok (.slice (some ⟨W.heap.size, 0, none⟩) N N) W1 ∧ Blk W1 W.heap.size 41 (repC 0 N) ∧ Fr (fun _ => False) W W1 := by
  obtain ⟨i0, hi, hz0, hz1, hz2⟩ := info_parts infoSt
  have h := run_make (P := Try.prog) W 52 41 i0 (.int .i64 0) Try.underlying52 hi hz0 .i64 .i64 N N (by omega) (by omega) (by rw [hz2]; omega) (by omega)
  have hm : madeCells (Value.int .i64 0).cells (N * 1) = repC 0 N := by
    apply Array.ext
    · simp [madeCells, repC, repL]
    · intro i h1 h2
      simp [madeCells, Value.cells, Nat.mod_one, repC, repL]
  rw [hz1, Int.toNat_natCast, hm] at h
  exact ⟨_, h, Blk.new W 41 (repC 0 N), (Fr.refl _ W).alloc _⟩
theorem blk_setRow {w : World} {g : Nat} {T : TypeId} {cs cs' : Array Value} (h : Blk w g T cs) : Blk (w.setRow g cs') g T cs' ∧ Fr (fun b => b = g) w (w.setRow g cs') :=
  ⟨setRow_heap w g cs cs' T (0, 0) h, ⟨rfl, rfl, rfl, by simp, fun k _ hk => setRow_other w g k cs' hk⟩⟩
theorem rep_copy (k m N : Nat) (hk : k + m ≤ N) : ((repC k N).toList.take k ++ (List.replicate m (Value.int .i64 1)) ++ (repC k N).toList.drop (k + m)) = (repC (k + m) N).toList := by
  have h1 : (repC k N).toList = List.replicate k (Value.int .i64 1) ++ List.replicate (N - k) (Value.int .i64 0) := by simp [repC, repL]
  have h2 : (repC (k + m) N).toList = List.replicate (k + m) (Value.int .i64 1) ++ List.replicate (N - (k + m)) (Value.int .i64 0) := by simp [repC, repL]
  rw [h1, h2, List.take_append_of_le_length (by simp), List.take_of_length_le (by simp), List.drop_append, List.drop_eq_nil_of_le (by simp), List.nil_append, List.length_replicate, List.drop_replicate, ← List.replicate_append_replicate]
  congr 2
  omega
theorem rep_get (k N : Nat) : ∀ j v, (List.replicate k (Value.int .i64 1))[j]? = some v → j < k ∧ v = .int .i64 1 := by
  intro j v h
  rw [List.getElem?_replicate] at h
  split at h
  · rename_i q
    injection h with h
    exact ⟨q, h.symm⟩
  · cases h
theorem copy_st {w : World} {g k m N sl sc dl dc : Nat} {ty : TypeId} {ad : Addr} (hb : Blk w g 41 (repC k N)) (hk : k + m ≤ N) (hm : m = Nat.min sl dl)
    (hsrc : ∀ j, j < m → w.cell? (ad.add j) = some (.int .i64 1)) :
    ∃ w', (Builtin.copy_ #[52, 52] ty #[.slice (some ⟨g, k, none⟩) dl dc, .slice (some ad) sl sc]).run Try.prog w = .ok (.int .i64 (m : Nat)) w' ∧ Blk w' g 41 (repC (k + m) N) ∧ Fr (fun b => b = g) w w' := by
  have hr := run_copy_row (P := Try.prog) w 52 52 ty 41 g k dl dc ad sl sc (repC k N) 41 (List.replicate m (.int .i64 1)) Try.underlying52 (by kernel_rfl) hb
    (by rw [List.length_replicate]; exact hm) (fun j v h => by obtain ⟨h1, rfl⟩ := rep_get m N j v h; exact hsrc j h1) (by rw [List.length_replicate]; simp [repC, repL]; omega)
    (fun v hv => by rw [List.eq_of_mem_replicate hv]; rfl)
  rw [List.length_replicate, rep_copy k m N hk] at hr
  have h2 := blk_setRow (cs' := (repC (k + m) N).toList.toArray) hb
  refine ⟨_, hr, ?_, h2.2⟩
  have := h2.1
  rwa [Array.toArray_toList] at this ⊢
theorem rep_cell {w : World} {g k N : Nat} (hb : Blk w g 41 (repC k N)) (j : Nat) (hj : j < k) : w.cell? ⟨g, j, none⟩ = some (.int .i64 1) := by
  rw [hb.cell]
  simp [repC, repL]
  rw [List.getElem?_append_left (by simpa using hj), List.getElem?_replicate, if_pos hj]
set_option maxRecDepth 100000 in
set_option maxHeartbeats 4000000 in
theorem prepeat_any (N : Nat) (h : N = 1 ∨ N = 2 ∨ N = 3 ∨ N = 4) {w : World} {b c : Nat} (hx : w.cell? ⟨b, 0, none⟩ = some (.int .i64 1)) :
    Calls Try.prog 92 #[.slice (some ⟨b, 0, none⟩) 1 c, .int .i64 (N : Nat)] w fun e w' => e = .returned (.slice (some ⟨w.heap.size, 0, none⟩) N N) ∧ RowS w' w.heap.size (.slice (some ⟨w.heap.size, 0, none⟩) N N) (List.replicate N 1) ∧ Fr (fun _ => False) w w' := by
  have HM := Lib.hid (pmul_any N h)
  have hN : 1 ≤ N ∧ N ≤ 4 := by omega
  have hn0 : ¬ (N : Int) < 0 := by omega
  have hn1 : IntKind.u64.wrap (N : Int) = (N : Int) := wrapU_pos (by omega) (by omega)
  have hn2 : wrap64 (N : Int) = (N : Int) := wrap64_in (by omega) (by omega)
  have hn3 : ¬ (9223372036854775807 : Int) < (N : Int) := by omega
  have u1 : IntKind.u64.wrap 1 = 1 := by decide +kernel
  obtain ⟨W1, hmk, hb1, f1⟩ := make_st w N (by omega)
  obtain ⟨W2, hcp, hb2, f2⟩ := copy_st (w := W1) (g := w.heap.size) (k := 0) (m := 1) (N := N) (sl := 1) (sc := c) (dl := N) (dc := N) (ty := 3) (ad := ⟨b, 0, none⟩) hb1 (by omega) (by simp [Nat.min_def]; omega) (fun j hj => by
    obtain rfl : j = 0 := by omega
    rw [show (⟨b, 0, none⟩ : Addr).add 0 = ⟨b, 0, none⟩ from rfl]
    exact (f1.cell (World.block_lt_of_cell? w _ hx) (fun q => q)).trans hx)
  have HF := Lib.hid (show Fr (fun _ => False) w W2 from f1.trans f2 (fun i hi q => by omega))
  have HB := Lib.hid hb2
  have HN := Lib.hid hN
  clear f1 f2 hb1 hb2 hx h hN
  go_enter Try.func92, Try.ntmps92
  go_wp2_with fail
  refine (HM.out _).mono ?_
  rintro e w1 ⟨rfl, rfl⟩
  go_wp2_with (at_builtin; refine Lib.wpList_copy_run _ rfl _ _ 52 52 rfl _ _ rfl rfl hcp ?_)
  clear hmk hcp
  go_loopw [8] (fun x wr => ∃ k : Nat, x = .int .i64 k ∧ k ≤ N ∧ 1 ≤ k ∧ Hid (Blk wr w1.heap.size 41 (repC k N)) ∧ Hid (Fr (fun _ => False) w1 wr)) (fun x _ => N - (intOf x).toNat)
  case atStart => exact ⟨1, rfl, HN.out.1, Nat.le_refl _, HB, HF⟩
  case round =>
    clear HB HF HM
    obtain ⟨k, rfl, hk, hk1, HB, HF⟩ := hrel
    by_cases hlt : k < N
    · have hki : (k : Int) < (N : Int) := by omega
      obtain ⟨m, hm⟩ : ∃ m, m = Nat.min k (N - k) := ⟨_, rfl⟩
      have hmb : 1 ≤ m ∧ k + m ≤ N := by rw [hm]; simp [Nat.min_def]; split <;> omega
      obtain ⟨W3, hcp, hb3, f3⟩ := copy_st (w := wr.drew) (g := w1.heap.size) (k := k) (m := m) (N := N) (sl := k) (sc := N) (dl := N - k) (dc := N - k) (ty := 3) (ad := ⟨w1.heap.size, 0, none⟩) (HB.out.keep ((Fr.refl (fun _ => False) wr).drew) (fun q => q)) hmb.2 hm (fun j hj => by
        rw [show (⟨w1.heap.size, 0, none⟩ : Addr).add j = ⟨w1.heap.size, j, none⟩ from by rw [add_plain, Nat.zero_add]]
        exact rep_cell (HB.out.keep ((Fr.refl (fun _ => False) wr).drew) (fun q => q)) j (Nat.lt_of_lt_of_le (by rw [hm] at hj; exact hj) (Nat.min_le_left _ _)))
      obtain ⟨p, hp⟩ : ∃ p, p = k + m := ⟨_, rfl⟩
      rw [← hp] at hb3
      have HB3 := Lib.hid hb3
      have HF3 := Lib.hid (show Fr (fun _ => False) w1 W3 from (HF.out.trans ((Fr.refl (fun _ => False) wr).drew) (fun _ _ q => q)).trans f3 (fun i hi q => by omega))
      have HCP := Lib.hid hcp
      have HMB := Lib.hid (And.intro hmb hlt)
      have HK : Hid ((0 : Int) ≤ (k : Int) ∧ (k : Int) ≤ (N : Int) ∧ k ≤ N ∧ (k : Int) < (N : Int) ∧ k < N ∧ ¬ N = k) := Lib.hid ⟨by omega, by omega, hk, hki, hlt, by omega⟩
      have HADD : Hid ((k : Int) + (m : Int) = (p : Int) ∧ IntKind.i64.wrap (p : Int) = (p : Int) ∧ wrap64 (p : Int) = (p : Int)) := Lib.hid ⟨by omega, wrapI_id (by omega) (by have := HN.out; omega), wrap64_in (by omega) (by have := HN.out; omega)⟩
      have HPP := Lib.hid hp
      clear hm hmb hb3 f3 hcp hlt hp
      go_wp2_with fail
      refine wp_region_held_drew (S := fun _ => True) (by kernel_rfl) (trivial) (fun hS0 => ?_)
      refine anyH_take 0 38 (.int .i64 (k : Nat)) rfl rfl (by kernel_rfl) (by kernel_rfl) (by kernel_rfl) (fun _ _ _ h => h) (.inl ⟨by rfl, fun w'' hS => by go_simp⟩) hS0 ?_
      (simp only [List.setIfInBounds_toArray, List.set_cons_zero, List.set_cons_succ])
      refine anyH_take 1 39 (.slice (some ⟨w1.heap.size, 0, none⟩) N N) rfl rfl (by kernel_rfl) (by kernel_rfl) (by kernel_rfl) (fun _ _ _ h => h) (.inl ⟨by rfl, fun w'' hS => by go_simp⟩) hS0 ?_
      (simp only [List.setIfInBounds_toArray, List.set_cons_zero, List.set_cons_succ])
      refine anyH_take 2 40 (.int .i64 (k : Nat)) rfl rfl (by kernel_rfl) (by kernel_rfl) (by kernel_rfl) (fun _ _ _ h => h) (.inl ⟨by rfl, fun w'' hS => by go_simp⟩) hS0 ?_
      (simp only [List.setIfInBounds_toArray, List.set_cons_zero, List.set_cons_succ])
      refine anyH_take 3 41 (.slice (some ⟨w1.heap.size, k, none⟩) (N - k) (N - k)) rfl rfl (by kernel_rfl) (by kernel_rfl) (by kernel_rfl) (fun _ _ _ h => h) (.inl ⟨by rfl, fun w'' hS => by have q0 := HK.out.1; have q1 := HK.out.2.1; have q2 := HK.out.2.2.1; have q3 := HK.out.2.2.2.1; have q4 := HK.out.2.2.2.2.1; have q5 := HK.out.2.2.2.2.2; go_simp⟩) hS0 ?_
      (simp only [List.setIfInBounds_toArray, List.set_cons_zero, List.set_cons_succ])
      refine anyH_take 4 42 (.slice (some ⟨w1.heap.size, 0, none⟩) N N) rfl rfl (by kernel_rfl) (by kernel_rfl) (by kernel_rfl) (fun _ _ _ h => h) (.inl ⟨by rfl, fun w'' hS => by go_simp⟩) hS0 ?_
      (simp only [List.setIfInBounds_toArray, List.set_cons_zero, List.set_cons_succ])
      refine anyH_take 5 43 (.int .i64 (k : Nat)) rfl rfl (by kernel_rfl) (by kernel_rfl) (by kernel_rfl) (fun _ _ _ h => h) (.inl ⟨by rfl, fun w'' hS => by go_simp⟩) hS0 ?_
      (simp only [List.setIfInBounds_toArray, List.set_cons_zero, List.set_cons_succ])
      refine anyH_take 6 44 (.slice (some ⟨w1.heap.size, 0, none⟩) k N) rfl rfl (by kernel_rfl) (by kernel_rfl) (by kernel_rfl) (fun _ _ _ h => h) (.inl ⟨by rfl, fun w'' hS => by have q0 := HK.out.1; have q1 := HK.out.2.1; have q2 := HK.out.2.2.1; have q3 := HK.out.2.2.2.1; go_simp⟩) hS0 ?_
      (simp only [List.setIfInBounds_toArray, List.set_cons_zero, List.set_cons_succ])
      have q9 := HCP.out
      refine anyH_value 7 45 (.int .i64 (m : Nat)) W3 (by kernel_rfl) rfl rfl (by rfl) (run_copy_op (.tmp 41) (.tmp 44) 52 rfl rfl rfl q9) trivial ?_
      (simp only [List.setIfInBounds_toArray, List.set_cons_zero, List.set_cons_succ])
      clear q9
      refine anyH_take 8 46 (.int .i64 (p : Nat)) rfl rfl (by kernel_rfl) (by kernel_rfl) (by kernel_rfl) (fun _ _ _ h => h) (.inl ⟨by rfl, fun w'' hS => by have q0 := HADD.out.1; have q1 := HADD.out.2.1; have q2 := HADD.out.2.2; go_simp⟩) hS0 ?_
      (simp only [List.setIfInBounds_toArray, List.set_cons_zero, List.set_cons_succ])
      refine anyH_take 9 8 (.int .i64 (p : Nat)) rfl rfl (by kernel_rfl) (by kernel_rfl) (by kernel_rfl) (fun _ _ _ h => h) (.inl ⟨by rfl, fun w'' hS => by go_simp⟩) hS0 ?_
      (simp only [List.setIfInBounds_toArray, List.set_cons_zero, List.set_cons_succ])
      refine wpAnyH_done (by kernel_rfl) ?_ _
      clear hS0 HCP
      go_wp2_with fail
      refine ⟨⟨p, rfl, by rw [HPP.out]; exact HMB.out.1.2, by have := HMB.out.1.1; have := HPP.out; omega, HB3, HF3⟩, ?_⟩
      have h1 := HMB.out
      have h2 := HPP.out
      simp only [intOf, Int.toNat_natCast]
      omega
    · obtain rfl : k = N := by omega
      have hkk : ¬ (k : Int) < (k : Int) := by omega
      clear hlt
      go_wp2_with fail
      go_ret
      refine ⟨rfl, ?_, HF.out⟩
      have hL : repL k k = List.replicate k 1 := by simp [repL]
      have hb := HB.out
      unfold repC at hb
      rw [hL] at hb
      exact ⟨by simp, .inr ⟨_, k, _, by simp, Nat.le_refl _, hb, by simp, by simp [maxLen]; omega, by simp, by simp⟩⟩
end Go.Proofs.Ytmopkfjnjbimnaa
