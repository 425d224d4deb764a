/- The program's disk: Same. -/
import Derived.Test.YtiobmejnamdneaaLas
import Derived.Test.YtiobmejnamdneaaKno
namespace Go.Proofs.Ytiobmejnamdneaa
open Go.RowKit Go.Maps

theorem same_less {p q : Value} {w : World} {n m : Int} (h1 : Calls Try.prog 29 #[p] w fun e w' => e = .returned (.int .i64 n) ∧ w = w') (h2 : Calls Try.prog 29 #[q] w fun e w' => e = .returned (.int .i64 m) ∧ w = w') (hne : n ≠ m) :
    Calls Try.prog 10 #[p, q] w fun e w' => e = .returned (.bool false) ∧ w = w' := by
  have hb : (n == m) = false := by simp [hne]
  go_enter Try.func10, Try.ntmps10
  go_wp2_with fail
  refine h1.mono ?_
  rintro e w' ⟨rfl, rfl⟩
  go_wp2_with fail
  refine h2.mono ?_
  rintro e w' ⟨rfl, rfl⟩
  go_wp2_with fail
  go_ret
  exact ⟨rfl, rfl⟩
/-- Are two disks the same? -/
def DS.Like (d o : DS) : Prop := d.rd = o.rd ∧ ∀ i, i < d.rd.length → d.last i = o.last i
section
variable {w : World} {F G : Nat → Prop} {g R M g' R' M' : Nat} {D D' : DataW Value} {val val' : Nat → Value} {d o : DS}
theorem dsectors_any (h : DiskW w F g R M D val d) : Calls Try.prog 29 #[.pointer (some ⟨g, 0, none⟩)] w fun e w' => e = .returned (.int .i64 d.rd.length) ∧ w = w' := sectors_any h.blk

set_option maxRecDepth 100000 in
set_option maxHeartbeats 4000000 in
theorem dsame_any (h : DiskW w F g R M D val d) (k : DiskW w G g' R' M' D' val' o) :
    Calls Try.prog 10 #[.pointer (some ⟨g, 0, none⟩), .pointer (some ⟨g', 0, none⟩)] w fun e w' => ∃ b : Bool, e = .returned (.bool b) ∧ (b = true ↔ d.Like o) ∧ Fr (fun _ => False) w w' := by
  obtain ⟨n, hn⟩ : ∃ n, n = d.rd.length := ⟨_, rfl⟩
  by_cases hm0 : ¬ d.rd.length = o.rd.length
  · have hm := hm0
    exact (same_less (dsectors_any h) (dsectors_any k) (by omega)).mono fun e w' he => ⟨false, he.1, ⟨fun q => (by cases q), fun q => absurd (congrArg List.length q.1) hm⟩, he.2 ▸ Fr.refl _ _⟩
  have hm : d.rd.length = o.rd.length := Decidable.not_not.1 hm0
  clear hm0
  have hm' : n = o.rd.length := hn.trans hm
  have HN := Lib.hid (And.intro hn hm')
  have hn8 : n ≤ 8192 := by have := h.n1; omega
  have S1 := dsectors_any h
  have S2 := dsectors_any k
  rw [← hn] at S1
  rw [← hm'] at S2
  have HD := Lib.hid (And.intro h k)
  clear h k hn hm hm'
  go_enter Try.func10, Try.ntmps10
  go_wp2_with fail
  refine S1.mono ?_
  rintro e w' ⟨rfl, rfl⟩
  go_wp2_with fail
  refine S2.mono ?_
  rintro e w' ⟨rfl, rfl⟩
  go_wp2_with fail
  refine S1.mono ?_
  rintro e w' ⟨rfl, rfl⟩
  clear S1 S2
  go_wp2_with fail
  go_loopw [13] (fun x wr => ∃ j : Nat, x = .int .i64 j ∧ j ≤ n ∧ Hid (∀ i, i < j → d.rd[i]? = o.rd[i]? ∧ d.last i = o.last i) ∧ Hid (Fr (fun _ => False) w wr)) (fun x _ => n - (intOf x).toNat)
  case atStart => exact ⟨0, rfl, Nat.zero_le _, Lib.hid (fun i hi => absurd hi (by omega)), Lib.hid (Fr.refl _ _)⟩
  case round =>
    obtain ⟨j, rfl, hj, HA, HF⟩ := hrel
    by_cases hlt : j < n
    · have h1 : DiskW wr F g R M D val d := HD.out.1.keep HF.out (fun _ _ q => q)
      have k1 : DiskW wr G g' R' M' D' val' o := HD.out.2.keep HF.out (fun _ _ q => q)
      have hjd : j < d.rd.length := by have := HN.out.1; omega
      have hjo : j < o.rd.length := by have := HN.out.2; omega
      obtain ⟨x, hx⟩ : ∃ x, d.rd[j]? = some x := ⟨_, List.getElem?_eq_getElem hjd⟩
      obtain ⟨y, hy⟩ : ∃ y, o.rd[j]? = some y := ⟨_, List.getElem?_eq_getElem hjo⟩
      obtain ⟨lx, hlx⟩ : ∃ lx, lx = d.last j := ⟨_, rfl⟩
      obtain ⟨ly, hly⟩ : ∃ ly, ly = o.last j := ⟨_, rfl⟩
      have HL : Hid (x.length = 128 ∧ y.length = 128 ∧ lx.length = 128 ∧ ly.length = 128) := Lib.hid ⟨h1.hl x (List.mem_of_getElem? hx), k1.hl y (List.mem_of_getElem? hy), hlx ▸ h1.last_len hjd, hly ▸ k1.last_len hjo⟩
      have HE := Lib.hid (And.intro hx (And.intro hy (And.intro hlx hly)))
      have HC : Hid (∀ w', Fr (fun _ => False) wr w' → w'.rangeAt R (j * 128) (cellsB x) ∧ w'.rangeAt R' (j * 128) (cellsB y)) := Lib.hid fun w' f => ⟨by
        have := ((h1.keep f (fun _ _ q => q)).secs j x hx).2
        rwa [Nat.zero_add] at this, by
        have := ((k1.keep f (fun _ _ q => q)).secs j y hy).2
        rwa [Nat.zero_add] at this⟩
      have HG : Hid (∀ w', Fr (fun _ => False) wr w' → w'.cell? ⟨g, 0, none⟩ = some (.slice (some ⟨R, 0, none⟩) n d.cp) ∧ w'.cell? ⟨g', 0, none⟩ = some (.slice (some ⟨R', 0, none⟩) n o.cp)) := Lib.hid fun w' f => ⟨by
        have := (dsk_cells (h1.keep f (fun _ _ q => q)).blk).1
        rwa [← HN.out.1] at this, by
        have := (dsk_cells (k1.keep f (fun _ _ q => q)).blk).1
        rwa [← HN.out.2] at this⟩
      have HK : Hid (∀ w', Fr (fun _ => False) wr w' → (Calls Try.prog 30 #[.pointer (some ⟨g, 0, none⟩), .int .i64 j] w' fun e w'' => e = .returned (av lx) ∧ Fr (fun _ => False) wr w'') ∧
          (Calls Try.prog 30 #[.pointer (some ⟨g', 0, none⟩), .int .i64 j] w' fun e w'' => e = .returned (av ly) ∧ Fr (fun _ => False) wr w'')) := Lib.hid fun w' f => ⟨(hlx ▸ dlasting_any (h1.keep f (fun _ _ q => q)) hjd).mono fun e w'' he => ⟨he.1, f.trans he.2 (fun _ _ q => q)⟩, (hly ▸ dlasting_any (k1.keep f (fun _ _ q => q)) hjo).mono fun e w'' he => ⟨he.1, f.trans he.2 (fun _ _ q => q)⟩⟩
      have hu := Try.underlying31
      have hszx : (Try.prog.info? 31).map (·.size) = some (cellsB x).length := by rw [infoSector, cellsB_len, HL.out.1]
      have hszy : (Try.prog.info? 31).map (·.size) = some (cellsB y).length := by rw [infoSector, cellsB_len, HL.out.2.1]
      have hi0 : (0 : Int) ≤ (j : Int) := by omega
      have hi1 : (j : Int) < (n : Int) := by omega
      clear hx hy hlx hly h1 k1 hjd hjo hj
      by_cases hxy : x = y
      · have hneq : ∀ w, (binOp .neq 31 (.agg (cellsB x).toArray) (.agg (cellsB y).toArray)).run Try.prog w = .ok (.bool false) w := fun w => by
          have := sec_neq x y HL.out.1 HL.out.2.1 w
          simpa [hxy] using this
        obtain ⟨bb, hbb⟩ : ∃ bb : Bool, bb = !decide (lx = ly) := ⟨_, rfl⟩
        have hneq2 : ∀ w, (binOp .neq 31 (.agg (cellsB lx).toArray) (.agg (cellsB ly).toArray)).run Try.prog w = .ok (.bool bb) w := fun w => by
          have := sec_neq lx ly HL.out.2.2.1 HL.out.2.2.2 w
          rw [hbb]
          exact this
        have HXY := Lib.hid (And.intro hxy hbb)
        clear hxy hbb
        go_wp2_with fail
        refine wp_region_held_drew (S := fun w' => Fr (fun _ => False) wr w') (by kernel_rfl) ((Fr.refl _ _).drew) (fun hS0 => ?_)
        refine anyH_take 0 16 (.pointer (some ⟨g, 0, none⟩)) rfl rfl (by kernel_rfl) (by kernel_rfl) (by kernel_rfl) (fun _ _ _ h => h) (.inl ⟨by rfl, fun w'' hS => by go_simp⟩) hS0 ?_
        (simp only [List.setIfInBounds_toArray, List.set_cons_zero, List.set_cons_succ])
        refine anyH_take 1 17 (.pointer (some ⟨g, 0, none⟩)) rfl rfl (by kernel_rfl) (by kernel_rfl) (by kernel_rfl) (fun _ _ _ h => h) (.inl ⟨by rfl, fun w'' hS => by go_simp⟩) hS0 ?_
        (simp only [List.setIfInBounds_toArray, List.set_cons_zero, List.set_cons_succ])
        refine anyH_take 2 18 (.pointer (some ⟨g, 0, none⟩)) rfl rfl (by kernel_rfl) (by kernel_rfl) (by kernel_rfl) (fun _ _ _ h => h) (.inl ⟨by rfl, fun w'' hS => by go_simp⟩) hS0 ?_
        (simp only [List.setIfInBounds_toArray, List.set_cons_zero, List.set_cons_succ])
        refine anyH_take 3 19 (.slice (some ⟨R, 0, none⟩) n d.cp) rfl rfl (by kernel_rfl) (by kernel_rfl) (by kernel_rfl) (fun _ _ _ h => h) (.inl ⟨by rfl, fun w'' hS => by have q0 := (HG.out w'' hS).1; go_simp⟩) hS0 ?_
        (simp only [List.setIfInBounds_toArray, List.set_cons_zero, List.set_cons_succ])
        refine anyH_take 4 20 (.int .i64 (j : Nat)) rfl rfl (by kernel_rfl) (by kernel_rfl) (by kernel_rfl) (fun _ _ _ h => h) (.inl ⟨by rfl, fun w'' hS => by go_simp⟩) hS0 ?_
        (simp only [List.setIfInBounds_toArray, List.set_cons_zero, List.set_cons_succ])
        refine anyH_take 5 21 (.pointer (some ⟨R, j * 128, none⟩)) rfl rfl (by kernel_rfl) (by kernel_rfl) (by kernel_rfl) (fun _ _ _ h => h) (.inl ⟨by rfl, fun w'' hS => by go_simp⟩) hS0 ?_
        (simp only [List.setIfInBounds_toArray, List.set_cons_zero, List.set_cons_succ])
        refine anyH_take 6 22 (.agg (cellsB x).toArray) rfl rfl (by kernel_rfl) (by kernel_rfl) (by kernel_rfl) (fun _ _ _ h => h) (yieldsIf_load_mid (by rfl) _ _ rfl _ _ rfl _ _ (fun w' f => (HC.out w' f).1) hu rfl hszx) hS0 ?_
        (simp only [List.setIfInBounds_toArray, List.set_cons_zero, List.set_cons_succ])
        refine anyH_take 7 23 (.pointer (some ⟨g', 0, none⟩)) rfl rfl (by kernel_rfl) (by kernel_rfl) (by kernel_rfl) (fun _ _ _ h => h) (.inl ⟨by rfl, fun w'' hS => by go_simp⟩) hS0 ?_
        (simp only [List.setIfInBounds_toArray, List.set_cons_zero, List.set_cons_succ])
        refine anyH_take 8 24 (.pointer (some ⟨g', 0, none⟩)) rfl rfl (by kernel_rfl) (by kernel_rfl) (by kernel_rfl) (fun _ _ _ h => h) (.inl ⟨by rfl, fun w'' hS => by go_simp⟩) hS0 ?_
        (simp only [List.setIfInBounds_toArray, List.set_cons_zero, List.set_cons_succ])
        refine anyH_take 9 25 (.pointer (some ⟨g', 0, none⟩)) rfl rfl (by kernel_rfl) (by kernel_rfl) (by kernel_rfl) (fun _ _ _ h => h) (.inl ⟨by rfl, fun w'' hS => by go_simp⟩) hS0 ?_
        (simp only [List.setIfInBounds_toArray, List.set_cons_zero, List.set_cons_succ])
        refine anyH_take 10 26 (.slice (some ⟨R', 0, none⟩) n o.cp) rfl rfl (by kernel_rfl) (by kernel_rfl) (by kernel_rfl) (fun _ _ _ h => h) (.inl ⟨by rfl, fun w'' hS => by have q0 := (HG.out w'' hS).2; go_simp⟩) hS0 ?_
        (simp only [List.setIfInBounds_toArray, List.set_cons_zero, List.set_cons_succ])
        refine anyH_take 11 27 (.int .i64 (j : Nat)) rfl rfl (by kernel_rfl) (by kernel_rfl) (by kernel_rfl) (fun _ _ _ h => h) (.inl ⟨by rfl, fun w'' hS => by go_simp⟩) hS0 ?_
        (simp only [List.setIfInBounds_toArray, List.set_cons_zero, List.set_cons_succ])
        refine anyH_take 12 28 (.pointer (some ⟨R', j * 128, none⟩)) rfl rfl (by kernel_rfl) (by kernel_rfl) (by kernel_rfl) (fun _ _ _ h => h) (.inl ⟨by rfl, fun w'' hS => by go_simp⟩) hS0 ?_
        (simp only [List.setIfInBounds_toArray, List.set_cons_zero, List.set_cons_succ])
        refine anyH_take 13 29 (.agg (cellsB y).toArray) rfl rfl (by kernel_rfl) (by kernel_rfl) (by kernel_rfl) (fun _ _ _ h => h) (yieldsIf_load_mid (by rfl) _ _ rfl _ _ rfl _ _ (fun w' f => (HC.out w' f).2) hu rfl hszy) hS0 ?_
        (simp only [List.setIfInBounds_toArray, List.set_cons_zero, List.set_cons_succ])
        refine anyH_take 14 30 (.bool false) rfl rfl (by kernel_rfl) (by kernel_rfl) (by kernel_rfl) (fun _ _ _ h => h) (.inl ⟨by rfl, fun w'' hS => by go_simp⟩) hS0 ?_
        (simp only [List.setIfInBounds_toArray, List.set_cons_zero, List.set_cons_succ])
        refine anyH_take 15 31 (.bool false) rfl rfl (by kernel_rfl) (by kernel_rfl) (by kernel_rfl) (fun _ _ _ h => h) (.inl ⟨by rfl, fun w'' hS => by go_simp⟩) hS0 ?_
        (simp only [List.setIfInBounds_toArray, List.set_cons_zero, List.set_cons_succ])
        refine anyH_take 16 32 (.pointer (some ⟨g, 0, none⟩)) rfl rfl (by kernel_rfl) (by kernel_rfl) (by kernel_rfl) (fun _ _ _ h => h) (.inl ⟨by rfl, fun w'' hS => by go_simp⟩) hS0 ?_
        (simp only [List.setIfInBounds_toArray, List.set_cons_zero, List.set_cons_succ])
        refine anyH_take 17 33 (.int .i64 (j : Nat)) rfl rfl (by kernel_rfl) (by kernel_rfl) (by kernel_rfl) (fun _ _ _ h => h) (.inl ⟨by rfl, fun w'' hS => by go_simp⟩) hS0 ?_
        (simp only [List.setIfInBounds_toArray, List.set_cons_zero, List.set_cons_succ])
        refine anyH_take 19 35 (.pointer (some ⟨g', 0, none⟩)) rfl rfl (by kernel_rfl) (by kernel_rfl) (by kernel_rfl) (fun _ _ _ h => h) (.inl ⟨by rfl, fun w'' hS => by go_simp⟩) hS0 ?_
        (simp only [List.setIfInBounds_toArray, List.set_cons_zero, List.set_cons_succ])
        refine anyH_take 20 36 (.int .i64 (j : Nat)) rfl rfl (by kernel_rfl) (by kernel_rfl) (by kernel_rfl) (fun _ _ _ h => h) (.inl ⟨by rfl, fun w'' hS => by go_simp⟩) hS0 ?_
        (simp only [List.setIfInBounds_toArray, List.set_cons_zero, List.set_cons_succ])
        refine anyH_one 18 34 (av lx) (by kernel_rfl) (tame_call 34 rfl rfl (by rfl) (fun w'' hS => by go_simp) (fun w'' hS => (HK.out w'' hS).1)) hS0 (fun wl1 hS0 => ?_)
        (simp only [List.setIfInBounds_toArray, List.set_cons_zero, List.set_cons_succ])
        refine anyH_one 21 37 (av ly) (by kernel_rfl) (tame_call 37 rfl rfl (by rfl) (fun w'' hS => by go_simp) (fun w'' hS => (HK.out w'' hS).2)) hS0 (fun wl2 hS0 => ?_)
        (simp only [List.setIfInBounds_toArray, List.set_cons_zero, List.set_cons_succ])
        refine anyH_take 22 38 (.bool bb) rfl rfl (by kernel_rfl) (by kernel_rfl) (by kernel_rfl) (fun _ _ _ h => h) (.inl ⟨by rfl, fun w'' hS => by go_simp⟩) hS0 ?_
        (simp only [List.setIfInBounds_toArray, List.set_cons_zero, List.set_cons_succ])
        refine anyH_take 23 39 (.bool bb) rfl rfl (by kernel_rfl) (by kernel_rfl) (by kernel_rfl) (fun _ _ _ h => h) (.inl ⟨by rfl, fun w'' hS => by go_simp⟩) hS0 ?_
        (simp only [List.setIfInBounds_toArray, List.set_cons_zero, List.set_cons_succ])
        refine wpAnyH_done (by kernel_rfl) ?_ _
        clear hu hszx hszy hneq hneq2 HC HG HK
        cases bb with
        | true =>
          go_wp2_with fail
          go_ret
          refine ⟨false, rfl, ⟨fun q => (by cases q), fun q => ?_⟩, HF.out.trans hS0 (fun _ _ q => q)⟩
          have h1 := q.2 j (by have := HN.out.1; omega)
          have h2 := HXY.out.2
          rw [← HE.out.2.2.1, ← HE.out.2.2.2] at h1
          simp [h1] at h2
        | false =>
          go_wp2_with fail
          refine ⟨⟨j + 1, by go_num, by omega, Lib.hid (fun i hi => ?_), Lib.hid (HF.out.trans hS0 (fun _ _ q => q))⟩, by simp [intOf]; omega⟩
          by_cases e : i = j
          · subst e
            have h2 := HXY.out.2
            have h3 : lx = ly := by simpa using h2
            exact ⟨by rw [HE.out.1, HE.out.2.1, HXY.out.1], by rw [← HE.out.2.2.1, ← HE.out.2.2.2, h3]⟩
          · exact HA.out i (by omega)
      · have hneq : ∀ w, (binOp .neq 31 (.agg (cellsB x).toArray) (.agg (cellsB y).toArray)).run Try.prog w = .ok (.bool true) w := fun w => by
          have := sec_neq x y HL.out.1 HL.out.2.1 w
          simpa [hxy] using this
        have HXY := Lib.hid hxy
        clear hxy
        go_wp2_with fail
        refine wp_region_held_drew (S := fun w' => Fr (fun _ => False) wr w') (by kernel_rfl) ((Fr.refl _ _).drew) (fun hS0 => ?_)
        refine anyH_take 0 16 (.pointer (some ⟨g, 0, none⟩)) rfl rfl (by kernel_rfl) (by kernel_rfl) (by kernel_rfl) (fun _ _ _ h => h) (.inl ⟨by rfl, fun w'' hS => by go_simp⟩) hS0 ?_
        (simp only [List.setIfInBounds_toArray, List.set_cons_zero, List.set_cons_succ])
        refine anyH_take 1 17 (.pointer (some ⟨g, 0, none⟩)) rfl rfl (by kernel_rfl) (by kernel_rfl) (by kernel_rfl) (fun _ _ _ h => h) (.inl ⟨by rfl, fun w'' hS => by go_simp⟩) hS0 ?_
        (simp only [List.setIfInBounds_toArray, List.set_cons_zero, List.set_cons_succ])
        refine anyH_take 2 18 (.pointer (some ⟨g, 0, none⟩)) rfl rfl (by kernel_rfl) (by kernel_rfl) (by kernel_rfl) (fun _ _ _ h => h) (.inl ⟨by rfl, fun w'' hS => by go_simp⟩) hS0 ?_
        (simp only [List.setIfInBounds_toArray, List.set_cons_zero, List.set_cons_succ])
        refine anyH_take 3 19 (.slice (some ⟨R, 0, none⟩) n d.cp) rfl rfl (by kernel_rfl) (by kernel_rfl) (by kernel_rfl) (fun _ _ _ h => h) (.inl ⟨by rfl, fun w'' hS => by have q0 := (HG.out w'' hS).1; go_simp⟩) hS0 ?_
        (simp only [List.setIfInBounds_toArray, List.set_cons_zero, List.set_cons_succ])
        refine anyH_take 4 20 (.int .i64 (j : Nat)) rfl rfl (by kernel_rfl) (by kernel_rfl) (by kernel_rfl) (fun _ _ _ h => h) (.inl ⟨by rfl, fun w'' hS => by go_simp⟩) hS0 ?_
        (simp only [List.setIfInBounds_toArray, List.set_cons_zero, List.set_cons_succ])
        refine anyH_take 5 21 (.pointer (some ⟨R, j * 128, none⟩)) rfl rfl (by kernel_rfl) (by kernel_rfl) (by kernel_rfl) (fun _ _ _ h => h) (.inl ⟨by rfl, fun w'' hS => by go_simp⟩) hS0 ?_
        (simp only [List.setIfInBounds_toArray, List.set_cons_zero, List.set_cons_succ])
        refine anyH_take 6 22 (.agg (cellsB x).toArray) rfl rfl (by kernel_rfl) (by kernel_rfl) (by kernel_rfl) (fun _ _ _ h => h) (yieldsIf_load_mid (by rfl) _ _ rfl _ _ rfl _ _ (fun w' f => (HC.out w' f).1) hu rfl hszx) hS0 ?_
        (simp only [List.setIfInBounds_toArray, List.set_cons_zero, List.set_cons_succ])
        refine anyH_take 7 23 (.pointer (some ⟨g', 0, none⟩)) rfl rfl (by kernel_rfl) (by kernel_rfl) (by kernel_rfl) (fun _ _ _ h => h) (.inl ⟨by rfl, fun w'' hS => by go_simp⟩) hS0 ?_
        (simp only [List.setIfInBounds_toArray, List.set_cons_zero, List.set_cons_succ])
        refine anyH_take 8 24 (.pointer (some ⟨g', 0, none⟩)) rfl rfl (by kernel_rfl) (by kernel_rfl) (by kernel_rfl) (fun _ _ _ h => h) (.inl ⟨by rfl, fun w'' hS => by go_simp⟩) hS0 ?_
        (simp only [List.setIfInBounds_toArray, List.set_cons_zero, List.set_cons_succ])
        refine anyH_take 9 25 (.pointer (some ⟨g', 0, none⟩)) rfl rfl (by kernel_rfl) (by kernel_rfl) (by kernel_rfl) (fun _ _ _ h => h) (.inl ⟨by rfl, fun w'' hS => by go_simp⟩) hS0 ?_
        (simp only [List.setIfInBounds_toArray, List.set_cons_zero, List.set_cons_succ])
        refine anyH_take 10 26 (.slice (some ⟨R', 0, none⟩) n o.cp) rfl rfl (by kernel_rfl) (by kernel_rfl) (by kernel_rfl) (fun _ _ _ h => h) (.inl ⟨by rfl, fun w'' hS => by have q0 := (HG.out w'' hS).2; go_simp⟩) hS0 ?_
        (simp only [List.setIfInBounds_toArray, List.set_cons_zero, List.set_cons_succ])
        refine anyH_take 11 27 (.int .i64 (j : Nat)) rfl rfl (by kernel_rfl) (by kernel_rfl) (by kernel_rfl) (fun _ _ _ h => h) (.inl ⟨by rfl, fun w'' hS => by go_simp⟩) hS0 ?_
        (simp only [List.setIfInBounds_toArray, List.set_cons_zero, List.set_cons_succ])
        refine anyH_take 12 28 (.pointer (some ⟨R', j * 128, none⟩)) rfl rfl (by kernel_rfl) (by kernel_rfl) (by kernel_rfl) (fun _ _ _ h => h) (.inl ⟨by rfl, fun w'' hS => by go_simp⟩) hS0 ?_
        (simp only [List.setIfInBounds_toArray, List.set_cons_zero, List.set_cons_succ])
        refine anyH_take 13 29 (.agg (cellsB y).toArray) rfl rfl (by kernel_rfl) (by kernel_rfl) (by kernel_rfl) (fun _ _ _ h => h) (yieldsIf_load_mid (by rfl) _ _ rfl _ _ rfl _ _ (fun w' f => (HC.out w' f).2) hu rfl hszy) hS0 ?_
        (simp only [List.setIfInBounds_toArray, List.set_cons_zero, List.set_cons_succ])
        refine anyH_take 14 30 (.bool true) rfl rfl (by kernel_rfl) (by kernel_rfl) (by kernel_rfl) (fun _ _ _ h => h) (.inl ⟨by rfl, fun w'' hS => by go_simp⟩) hS0 ?_
        (simp only [List.setIfInBounds_toArray, List.set_cons_zero, List.set_cons_succ])
        refine anyH_take 15 31 (.bool true) rfl rfl (by kernel_rfl) (by kernel_rfl) (by kernel_rfl) (fun _ _ _ h => h) (.inl ⟨by rfl, fun w'' hS => by go_simp⟩) hS0 ?_
        (simp only [List.setIfInBounds_toArray, List.set_cons_zero, List.set_cons_succ])
        refine anyH_take 16 32 undef rfl rfl (by kernel_rfl) (by kernel_rfl) (by kernel_rfl) (fun _ _ _ h => h) (.inr ⟨by rfl, rfl⟩) hS0 ?_
        (simp only [List.setIfInBounds_toArray, List.set_cons_zero, List.set_cons_succ])
        refine anyH_take 17 33 undef rfl rfl (by kernel_rfl) (by kernel_rfl) (by kernel_rfl) (fun _ _ _ h => h) (.inr ⟨by rfl, rfl⟩) hS0 ?_
        (simp only [List.setIfInBounds_toArray, List.set_cons_zero, List.set_cons_succ])
        refine anyH_take 18 34 undef rfl rfl (by kernel_rfl) (by kernel_rfl) (by kernel_rfl) (fun _ _ _ h => h) (.inr ⟨by rfl, rfl⟩) hS0 ?_
        (simp only [List.setIfInBounds_toArray, List.set_cons_zero, List.set_cons_succ])
        refine anyH_take 19 35 undef rfl rfl (by kernel_rfl) (by kernel_rfl) (by kernel_rfl) (fun _ _ _ h => h) (.inr ⟨by rfl, rfl⟩) hS0 ?_
        (simp only [List.setIfInBounds_toArray, List.set_cons_zero, List.set_cons_succ])
        refine anyH_take 20 36 undef rfl rfl (by kernel_rfl) (by kernel_rfl) (by kernel_rfl) (fun _ _ _ h => h) (.inr ⟨by rfl, rfl⟩) hS0 ?_
        (simp only [List.setIfInBounds_toArray, List.set_cons_zero, List.set_cons_succ])
        refine anyH_take 21 37 undef rfl rfl (by kernel_rfl) (by kernel_rfl) (by kernel_rfl) (fun _ _ _ h => h) (.inr ⟨by rfl, rfl⟩) hS0 ?_
        (simp only [List.setIfInBounds_toArray, List.set_cons_zero, List.set_cons_succ])
        refine anyH_take 22 38 undef rfl rfl (by kernel_rfl) (by kernel_rfl) (by kernel_rfl) (fun _ _ _ h => h) (.inr ⟨by rfl, rfl⟩) hS0 ?_
        (simp only [List.setIfInBounds_toArray, List.set_cons_zero, List.set_cons_succ])
        refine anyH_take 23 39 (.bool true) rfl rfl (by kernel_rfl) (by kernel_rfl) (by kernel_rfl) (fun _ _ _ h => h) (.inl ⟨by rfl, fun w'' hS => by go_simp⟩) hS0 ?_
        (simp only [List.setIfInBounds_toArray, List.set_cons_zero, List.set_cons_succ])
        refine wpAnyH_done (by kernel_rfl) ?_ _
        clear hu hszx hszy hneq HC HG HK
        go_wp2_with fail
        go_ret
        refine ⟨false, rfl, ⟨fun q => (by cases q), fun q => ?_⟩, HF.out.trans hS0 (fun _ _ q => q)⟩
        have h1 := HE.out.1
        rw [q.1, HE.out.2.1] at h1
        injection h1 with h1
        exact absurd h1.symm HXY.out
    · obtain rfl : j = n := by omega
      clear hlt hj
      go_wp2_with fail
      go_ret
      refine ⟨true, rfl, ⟨fun _ => ⟨?_, fun i hi => (HA.out i (by have := HN.out.1; omega)).2⟩, fun _ => rfl⟩, HF.out⟩
      refine List.ext_getElem? fun i => ?_
      by_cases hi : i < j
      · exact (HA.out i hi).1
      · rw [List.getElem?_eq_none (by have := HN.out.1; omega), List.getElem?_eq_none (by have := HN.out.2; omega)]
end
end Go.Proofs.Ytiobmejnamdneaa
