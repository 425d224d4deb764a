/- The law's comparison of the two disks: couponlaw03.same. -/
import Derived.Test.YtiobmejnamdneaaSim
namespace Go.Proofs.Ytiobmejnamdneaa
open Go.RowKit Go.Maps

section
variable {w : World} {B g g' : Nat} {P : Nat → Prop} {d : DS} {r : RD} {v : Value} {vs : List Value}
theorem asectors_any (h : DAt w B P g d) : Calls Try.prog 29 #[.pointer (some ⟨g, 0, none⟩)] w fun e w' => e = .returned (.int .i64 d.rd.length) ∧ w = w' := by
  obtain ⟨⟨R, M, D, val, k1⟩, k2⟩ := h
  exact dsectors_any k1
theorem aopenL_any (h : DAt w B P g d) : Calls Try.prog 31 #[.pointer (some ⟨g, 0, none⟩)] w fun e w' => ∃ v, e = .returned v ∧ w'.ownsRow w.heap.size 3 1 v d.openL.length ((asZ d.openL).map encZ) ∧ Fr (fun _ => False) w w' := by
  obtain ⟨⟨R, M, D, val, k1⟩, k2⟩ := h
  exact open_any k1
theorem DAt.n1 (h : DAt w B P g d) : 0 < d.rd.length ∧ d.rd.length ≤ 8192 := by
  obtain ⟨⟨R, M, D, val, k1⟩, k2⟩ := h
  have h0 := k1.n0
  have := k1.n1
  exact ⟨by omega, by omega⟩
theorem DAt.all (h : DAt w B P g d) {i : Nat} (hi : i < d.rd.length) : (d.rd.getD i []).length = 128 := by
  obtain ⟨⟨R, M, D, val, k1⟩, k2⟩ := h
  rw [List.getD_eq_getElem?_getD, List.getElem?_eq_getElem hi]
  exact k1.hl _ (List.getElem_mem hi)

theorem IntsAt.cellAt {A : Option Addr} {m c : Nat} {zs : List Int} (h : IntsAt w (.slice A m c) zs) {j : Nat} {z : Int} (hz : zs[j]? = some z) : ∃ b off, A = some ⟨b, off, none⟩ ∧ w.cell? ⟨b, off + j, none⟩ = some (.int .i64 z) := by
  obtain ⟨A', c', e, h1, h2⟩ := h
  injection e with e1 e2 e3
  subst e1
  obtain ⟨b, off, hb, h3⟩ := h2 (by have := (List.getElem?_eq_some_iff.1 hz).1; omega)
  exact ⟨b, off, hb, h3 j z hz⟩

set_option maxRecDepth 100000 in
set_option maxHeartbeats 4000000 in
theorem csame_any (h : DAt w B P g d) (k : RefW w g' v vs r) (hs : Sim d r) :
    Calls Try.prog 12 #[.pointer (some ⟨g, 0, none⟩), .pointer (some ⟨g', 0, none⟩)] w fun e w' => e = .returned (.bool true) ∧ Fr (fun _ => False) w w' := by
  obtain ⟨n, hn⟩ : ∃ n, n = d.rd.length := ⟨_, rfl⟩
  obtain ⟨m, hm⟩ : ∃ m, m = d.openL.length := ⟨_, rfl⟩
  obtain ⟨dd, hdd⟩ : ∃ dd, dd = d.dd := ⟨_, rfl⟩
  have hn8 := h.n1
  have hrn : r.V.length = n := by rw [hn, hs.len]
  have hmn : m ≤ n := by rw [hm, hn]; have e : d.openL.length ≤ (List.range d.rd.length).length := List.length_filter_le _ _; simpa using e
  have S1 := aopenL_any h
  have S2 : ∀ w', Fr (fun _ => False) w w' → Calls Try.prog 32 #[.pointer (some ⟨g', 0, none⟩)] w' fun e w'' => ∃ lv, e = .returned lv ∧ w''.ownsRow w'.heap.size 3 1 lv r.openL.length ((asZ r.openL).map encZ) ∧ Fr (fun _ => False) w' w'' := fun w' f => ropen_any (k.keep f (fun _ _ q => q)) (by omega)
  rw [← hs.openL] at S2
  rw [← hm] at S1 S2
  obtain ⟨A, c, hv, _, _⟩ := own_slice k.row
  rw [hrn] at hv
  have HK : Hid (∀ w', Fr (fun _ => False) w w' → DAt w' B P g d ∧ RefW w' g' v vs r) := Lib.hid fun w' f => ⟨h.new f, k.keep f (fun _ _ q => q)⟩
  have HS := Lib.hid (And.intro hs (And.intro hn (And.intro hm (And.intro hdd (And.intro hrn hv)))))
  have hn1 : 0 < n := by omega
  have hn2 : n ≤ 8192 := by omega
  clear h k hs hn hm hdd hrn hv hn8
  go_enter Try.func12, Try.ntmps12
  go_wp2_with fail
  refine S1.mono ?_
  rintro e w1 ⟨lv1, rfl, ho1, f1⟩
  have S3 := S2 w1 f1
  clear S1 S2
  go_wp2_with fail
  refine S3.mono ?_
  rintro e w2 ⟨lv2, rfl, ho2, f2⟩
  obtain ⟨A1, c1, rfl, _, _⟩ := own_slice ho1
  obtain ⟨A2, c2, rfl, _, _⟩ := own_slice ho2
  have hal : (asZ d.openL).length = m := by simp [HS.out.2.2.1]
  have HI : Hid (IntsAt w2 (.slice A1 m c1) (asZ d.openL) ∧ IntsAt w2 (.slice A2 m c2) (asZ d.openL)) := Lib.hid ⟨by
    refine IntsAt.keep (IntsAt.own (base := w.heap.size) ?_) f2 (fun _ _ q => q)
    rw [hal]
    exact ho1, by
    refine IntsAt.own (base := w1.heap.size) ?_
    rw [hal]
    exact ho2⟩
  have HF2 := Lib.hid (f1.trans f2 (fun _ _ q => q))
  have HG0 : Hid (∀ w', Fr (fun _ => False) w w' → w'.cell? ⟨g', 0, none⟩ = some (.slice A n c) ∧ w'.cell? ⟨g', 2, none⟩ = some (.bool dd)) := Lib.hid fun w' f => by
    have kk := (HK.out w' f).2
    refine ⟨(kk.blk.cell 0).trans (by rw [HS.out.2.2.2.2.2]; rfl), (kk.blk.cell 2).trans ?_⟩
    rw [HS.out.2.2.2.1, HS.out.1.dead]
    rfl
  have HG : Hid (∀ w', Fr (fun _ => False) w2 w' → w'.cell? ⟨g', 0, none⟩ = some (.slice A n c) ∧ w'.cell? ⟨g', 2, none⟩ = some (.bool dd)) := Lib.hid fun w' f => HG0.out w' (HF2.out.trans f (fun _ _ q => q))
  have HC : Hid (∀ w', Fr (fun _ => False) w2 w' → (Calls Try.prog 29 #[.pointer (some ⟨g, 0, none⟩)] w' fun e w'' => e = .returned (.int .i64 n) ∧ Fr (fun _ => False) w2 w'') ∧ (Calls Try.prog 33 #[.pointer (some ⟨g, 0, none⟩)] w' fun e w'' => e = .returned (.bool dd) ∧ Fr (fun _ => False) w2 w'')) := Lib.hid fun w' f => by
    have kk := (HK.out w' (HF2.out.trans f (fun _ _ q => q))).1
    exact ⟨(asectors_any kk).mono fun e w3 he => ⟨by rw [HS.out.2.1]; exact he.1, he.2 ▸ f⟩, (adead_any kk).mono fun e w3 he => ⟨by rw [HS.out.2.2.2.1]; exact he.1, he.2 ▸ f⟩⟩
  clear ho1 ho2 f1 f2 S3 hal
  go_upto_region 2 with fail
  refine wp_region_held_drew (S := fun w' => Fr (fun _ => False) w2 w') (by kernel_rfl) ((Fr.refl _ _).drew) (fun hS0 => ?_)
  refine anyH_take 0 15 (.pointer (some ⟨g, 0, none⟩)) rfl rfl (by kernel_rfl) (by kernel_rfl) (by kernel_rfl) (fun _ _ _ h => h) (.inl ⟨by rfl, fun w'' hS => by go_simp⟩) hS0 ?_
  (simp only [List.setIfInBounds_toArray, List.set_cons_zero, List.set_cons_succ])
  refine anyH_take 2 17 (.pointer (some ⟨g', 0, none⟩)) rfl rfl (by kernel_rfl) (by kernel_rfl) (by kernel_rfl) (fun _ _ _ h => h) (.inl ⟨by rfl, fun w'' hS => by go_simp⟩) hS0 ?_
  (simp only [List.setIfInBounds_toArray, List.set_cons_zero, List.set_cons_succ])
  refine anyH_take 3 18 (.pointer (some ⟨g', 0, none⟩)) rfl rfl (by kernel_rfl) (by kernel_rfl) (by kernel_rfl) (fun _ _ _ h => h) (.inl ⟨by rfl, fun w'' hS => by go_simp⟩) hS0 ?_
  (simp only [List.setIfInBounds_toArray, List.set_cons_zero, List.set_cons_succ])
  refine anyH_take 4 19 (.pointer (some ⟨g', 0, none⟩)) rfl rfl (by kernel_rfl) (by kernel_rfl) (by kernel_rfl) (fun _ _ _ h => h) (.inl ⟨by rfl, fun w'' hS => by go_simp⟩) hS0 ?_
  (simp only [List.setIfInBounds_toArray, List.set_cons_zero, List.set_cons_succ])
  refine anyH_take 5 20 (.slice A n c) rfl rfl (by kernel_rfl) (by kernel_rfl) (by kernel_rfl) (fun _ _ _ h => h) (.inl ⟨by rfl, fun w'' hS => by have q0 := (HG.out w'' hS).1; go_simp⟩) hS0 ?_
  (simp only [List.setIfInBounds_toArray, List.set_cons_zero, List.set_cons_succ])
  refine anyH_take 6 21 (.int .i64 (n : Nat)) rfl rfl (by kernel_rfl) (by kernel_rfl) (by kernel_rfl) (fun _ _ _ h => h) (.inl ⟨by rfl, fun w'' hS => by go_simp⟩) hS0 ?_
  (simp only [List.setIfInBounds_toArray, List.set_cons_zero, List.set_cons_succ])
  refine anyH_one 1 16 (.int .i64 (n : Nat)) (by kernel_rfl) (tame_call 16 rfl rfl (by rfl) (fun w'' hS => by go_simp) (fun w'' hS => (HC.out w'' hS).1)) hS0 (fun wl1 hS0 => ?_)
  (simp only [List.setIfInBounds_toArray, List.set_cons_zero, List.set_cons_succ])
  refine anyH_take 7 22 (.bool false) rfl rfl (by kernel_rfl) (by kernel_rfl) (by kernel_rfl) (fun _ _ _ h => h) (.inl ⟨by rfl, fun w'' hS => by go_simp⟩) hS0 ?_
  (simp only [List.setIfInBounds_toArray, List.set_cons_zero, List.set_cons_succ])
  refine anyH_take 8 23 (.bool false) rfl rfl (by kernel_rfl) (by kernel_rfl) (by kernel_rfl) (fun _ _ _ h => h) (.inl ⟨by rfl, fun w'' hS => by go_simp⟩) hS0 ?_
  (simp only [List.setIfInBounds_toArray, List.set_cons_zero, List.set_cons_succ])
  refine anyH_take 9 24 (.pointer (some ⟨g, 0, none⟩)) rfl rfl (by kernel_rfl) (by kernel_rfl) (by kernel_rfl) (fun _ _ _ h => h) (.inl ⟨by rfl, fun w'' hS => by go_simp⟩) hS0 ?_
  (simp only [List.setIfInBounds_toArray, List.set_cons_zero, List.set_cons_succ])
  refine anyH_take 11 26 (.pointer (some ⟨g', 0, none⟩)) rfl rfl (by kernel_rfl) (by kernel_rfl) (by kernel_rfl) (fun _ _ _ h => h) (.inl ⟨by rfl, fun w'' hS => by go_simp⟩) hS0 ?_
  (simp only [List.setIfInBounds_toArray, List.set_cons_zero, List.set_cons_succ])
  refine anyH_take 12 27 (.pointer (some ⟨g', 0, none⟩)) rfl rfl (by kernel_rfl) (by kernel_rfl) (by kernel_rfl) (fun _ _ _ h => h) (.inl ⟨by rfl, fun w'' hS => by go_simp⟩) hS0 ?_
  (simp only [List.setIfInBounds_toArray, List.set_cons_zero, List.set_cons_succ])
  refine anyH_take 13 28 (.pointer (some ⟨g', 2, none⟩)) rfl rfl (by kernel_rfl) (by kernel_rfl) (by kernel_rfl) (fun _ _ _ h => h) (.inl ⟨by rfl, fun w'' hS => by go_simp⟩) hS0 ?_
  (simp only [List.setIfInBounds_toArray, List.set_cons_zero, List.set_cons_succ])
  refine anyH_take 14 29 (.bool dd) rfl rfl (by kernel_rfl) (by kernel_rfl) (by kernel_rfl) (fun _ _ _ h => h) (.inl ⟨by rfl, fun w'' hS => by have q0 := (HG.out w'' hS).2; go_simp⟩) hS0 ?_
  (simp only [List.setIfInBounds_toArray, List.set_cons_zero, List.set_cons_succ])
  refine anyH_one 10 25 (.bool dd) (by kernel_rfl) (tame_call 25 rfl rfl (by rfl) (fun w'' hS => by go_simp) (fun w'' hS => (HC.out w'' hS).2)) hS0 (fun w3 hS0 => ?_)
  (simp only [List.setIfInBounds_toArray, List.set_cons_zero, List.set_cons_succ])
  refine anyH_take 15 30 (.bool false) rfl rfl (by kernel_rfl) (by kernel_rfl) (by kernel_rfl) (fun _ _ _ h => h) (.inl ⟨by rfl, fun w'' hS => by go_simp⟩) hS0 ?_
  (simp only [List.setIfInBounds_toArray, List.set_cons_zero, List.set_cons_succ])
  refine anyH_take 16 31 (.bool false) rfl rfl (by kernel_rfl) (by kernel_rfl) (by kernel_rfl) (fun _ _ _ h => h) (.inl ⟨by rfl, fun w'' hS => by go_simp⟩) hS0 ?_
  (simp only [List.setIfInBounds_toArray, List.set_cons_zero, List.set_cons_succ])
  refine anyH_take 17 32 (.bool false) rfl rfl (by kernel_rfl) (by kernel_rfl) (by kernel_rfl) (fun _ _ _ h => h) (.inl ⟨by rfl, fun w'' hS => by go_simp⟩) hS0 ?_
  (simp only [List.setIfInBounds_toArray, List.set_cons_zero, List.set_cons_succ])
  refine anyH_take 18 33 (.slice A1 m c1) rfl rfl (by kernel_rfl) (by kernel_rfl) (by kernel_rfl) (fun _ _ _ h => h) (.inl ⟨by rfl, fun w'' hS => by go_simp⟩) hS0 ?_
  (simp only [List.setIfInBounds_toArray, List.set_cons_zero, List.set_cons_succ])
  refine anyH_take 19 34 (.int .i64 (m : Nat)) rfl rfl (by kernel_rfl) (by kernel_rfl) (by kernel_rfl) (fun _ _ _ h => h) (.inl ⟨by rfl, fun w'' hS => by go_simp⟩) hS0 ?_
  (simp only [List.setIfInBounds_toArray, List.set_cons_zero, List.set_cons_succ])
  refine anyH_take 20 35 (.slice A2 m c2) rfl rfl (by kernel_rfl) (by kernel_rfl) (by kernel_rfl) (fun _ _ _ h => h) (.inl ⟨by rfl, fun w'' hS => by go_simp⟩) hS0 ?_
  (simp only [List.setIfInBounds_toArray, List.set_cons_zero, List.set_cons_succ])
  refine anyH_take 21 36 (.int .i64 (m : Nat)) rfl rfl (by kernel_rfl) (by kernel_rfl) (by kernel_rfl) (fun _ _ _ h => h) (.inl ⟨by rfl, fun w'' hS => by go_simp⟩) hS0 ?_
  (simp only [List.setIfInBounds_toArray, List.set_cons_zero, List.set_cons_succ])
  refine anyH_take 22 37 (.bool false) rfl rfl (by kernel_rfl) (by kernel_rfl) (by kernel_rfl) (fun _ _ _ h => h) (.inl ⟨by rfl, fun w'' hS => by go_simp⟩) hS0 ?_
  (simp only [List.setIfInBounds_toArray, List.set_cons_zero, List.set_cons_succ])
  refine anyH_take 23 38 (.bool false) rfl rfl (by kernel_rfl) (by kernel_rfl) (by kernel_rfl) (fun _ _ _ h => h) (.inl ⟨by rfl, fun w'' hS => by go_simp⟩) hS0 ?_
  (simp only [List.setIfInBounds_toArray, List.set_cons_zero, List.set_cons_succ])
  refine wpAnyH_done (by kernel_rfl) ?_ _
  have HF3 := Lib.hid (HF2.out.trans hS0 (fun _ _ q => q))
  have HI3 : Hid (IntsAt w3 (.slice A1 m c1) (asZ d.openL) ∧ IntsAt w3 (.slice A2 m c2) (asZ d.openL)) := Lib.hid ⟨HI.out.1.keep hS0 (fun _ _ q => q), HI.out.2.keep hS0 (fun _ _ q => q)⟩
  clear HG HC HI HF2 hS0
  go_wp2_with fail
  go_loopw [7] (fun x wr => ∃ j : Nat, x = .int .i64 j ∧ j ≤ m ∧ Hid (Fr (fun _ => False) w3 wr)) (fun x _ => m - (intOf x).toNat)
  case atStart => exact ⟨0, rfl, Nat.zero_le _, Lib.hid (Fr.refl _ _)⟩
  case round =>
    obtain ⟨j, rfl, hj, HF⟩ := hrel
    by_cases hlt : j < m
    · obtain ⟨x, hx⟩ : ∃ x, (asZ d.openL)[j]? = some x := ⟨_, List.getElem?_eq_getElem (by have := HS.out.2.2.1; simp; omega)⟩
      obtain ⟨b1, o1, rfl, k1⟩ := IntsAt.cellAt (HI3.out.1.keep HF.out (fun _ _ q => q)) hx
      obtain ⟨b2, o2, rfl, k2⟩ := IntsAt.cellAt (HI3.out.2.keep HF.out (fun _ _ q => q)) hx
      have HC : Hid (∀ w', Fr (fun _ => False) wr w' → w'.cell? ⟨b1, o1 + j, none⟩ = some (.int .i64 x) ∧ w'.cell? ⟨b2, o2 + j, none⟩ = some (.int .i64 x)) := Lib.hid fun w' f =>
        ⟨(f.cell (World.block_lt_of_cell? wr _ k1) (fun q => q)).trans k1, (f.cell (World.block_lt_of_cell? wr _ k2) (fun q => q)).trans k2⟩
      have hi0 : (0 : Int) ≤ (j : Int) := by omega
      have hi1 : (j : Int) < (m : Int) := by omega
      clear hx k1 k2 hj
      go_wp2_with fail
      refine wp_region_held_drew (S := fun w' => Fr (fun _ => False) wr w') (by kernel_rfl) ((Fr.refl _ _).drew) (fun hS0 => ?_)
      refine anyH_take 0 45 (.slice (some ⟨b1, o1, none⟩) m c1) rfl rfl (by kernel_rfl) (by kernel_rfl) (by kernel_rfl) (fun _ _ _ h => h) (.inl ⟨by rfl, fun w'' hS => by go_simp⟩) hS0 ?_
      (simp only [List.setIfInBounds_toArray, List.set_cons_zero, List.set_cons_succ])
      refine anyH_take 1 46 (.int .i64 (j : Nat)) rfl rfl (by kernel_rfl) (by kernel_rfl) (by kernel_rfl) (fun _ _ _ h => h) (.inl ⟨by rfl, fun w'' hS => by go_simp⟩) hS0 ?_
      (simp only [List.setIfInBounds_toArray, List.set_cons_zero, List.set_cons_succ])
      refine anyH_take 2 47 (.pointer (some ⟨b1, o1 + j, none⟩)) rfl rfl (by kernel_rfl) (by kernel_rfl) (by kernel_rfl) (fun _ _ _ h => h) (.inl ⟨by rfl, fun w'' hS => by go_simp⟩) hS0 ?_
      (simp only [List.setIfInBounds_toArray, List.set_cons_zero, List.set_cons_succ])
      refine anyH_take 3 48 (.int .i64 x) rfl rfl (by kernel_rfl) (by kernel_rfl) (by kernel_rfl) (fun _ _ _ h => h) (.inl ⟨by rfl, fun w'' hS => by have q0 := (HC.out w'' hS).1; go_simp⟩) hS0 ?_
      (simp only [List.setIfInBounds_toArray, List.set_cons_zero, List.set_cons_succ])
      refine anyH_take 4 49 (.slice (some ⟨b2, o2, none⟩) m c2) rfl rfl (by kernel_rfl) (by kernel_rfl) (by kernel_rfl) (fun _ _ _ h => h) (.inl ⟨by rfl, fun w'' hS => by go_simp⟩) hS0 ?_
      (simp only [List.setIfInBounds_toArray, List.set_cons_zero, List.set_cons_succ])
      refine anyH_take 5 50 (.int .i64 (j : Nat)) rfl rfl (by kernel_rfl) (by kernel_rfl) (by kernel_rfl) (fun _ _ _ h => h) (.inl ⟨by rfl, fun w'' hS => by go_simp⟩) hS0 ?_
      (simp only [List.setIfInBounds_toArray, List.set_cons_zero, List.set_cons_succ])
      refine anyH_take 6 51 (.pointer (some ⟨b2, o2 + j, none⟩)) rfl rfl (by kernel_rfl) (by kernel_rfl) (by kernel_rfl) (fun _ _ _ h => h) (.inl ⟨by rfl, fun w'' hS => by go_simp⟩) hS0 ?_
      (simp only [List.setIfInBounds_toArray, List.set_cons_zero, List.set_cons_succ])
      refine anyH_take 7 52 (.int .i64 x) rfl rfl (by kernel_rfl) (by kernel_rfl) (by kernel_rfl) (fun _ _ _ h => h) (.inl ⟨by rfl, fun w'' hS => by have q0 := (HC.out w'' hS).2; go_simp⟩) hS0 ?_
      (simp only [List.setIfInBounds_toArray, List.set_cons_zero, List.set_cons_succ])
      refine anyH_take 8 53 (.bool false) rfl rfl (by kernel_rfl) (by kernel_rfl) (by kernel_rfl) (fun _ _ _ h => h) (.inl ⟨by rfl, fun w'' hS => by go_simp⟩) hS0 ?_
      (simp only [List.setIfInBounds_toArray, List.set_cons_zero, List.set_cons_succ])
      refine wpAnyH_done (by kernel_rfl) ?_ _
      go_wp2_with fail
      exact ⟨⟨j + 1, by go_num, by omega, Lib.hid (HF.out.trans hS0 (fun _ _ q => q))⟩, by simp [intOf]; omega⟩
    · obtain rfl : m = j := by omega
      clear hlt hj
      have HF4 := Lib.hid (HF3.out.trans HF.out (fun _ _ q => q))
      clear HI3 HF3 HF
      go_wp2_with fail
      generalize wr = w4 at *
      go_loopw [8] (fun x wr => ∃ j : Nat, x = .int .i64 j ∧ j ≤ n ∧ Hid (Fr (fun _ => False) w wr)) (fun x _ => n - (intOf x).toNat)
      case atStart => exact ⟨0, rfl, Nat.zero_le _, HF4⟩
      case round =>
        obtain ⟨j, rfl, hj, HF⟩ := hrel
        have q0 := (HG0.out _ HF.out).1
        by_cases hlt : j < n
        · have hjd : j < d.rd.length := by have := HS.out.2.1; omega
          have HR1 := aread_any (HK.out _ HF.out).1 hjd
          obtain ⟨s, hs⟩ : ∃ s, s = d.rd.getD j [] := ⟨_, rfl⟩
          have HL : Hid (s.length = 128) := Lib.hid (by rw [hs]; exact (HK.out _ HF.out).1.all hjd)
          obtain ⟨ss, hss, hlast⟩ := SimAt.read (HS.out.1.each j hjd)
          rw [← hs] at hlast HR1
          have HR2 : Hid (∀ w', Fr (fun _ => False) w w' → Calls Try.prog 11 #[.pointer (some ⟨g', 0, none⟩), .int .i64 j] w' fun e w'' => e = .returned (av s) ∧ Fr (fun _ => False) w' w'') := Lib.hid fun w' f => hlast ▸ rread_any (HK.out w' f).2 hss
          have hi0 : (0 : Int) ≤ (j : Int) := by omega
          have hi1 : (j : Int) < (n : Int) := by omega
          clear hs hss hlast hjd hj
          go_wp2_with fail
          refine HR1.mono ?_
          rintro e w10 ⟨rfl, f10⟩
          have HF10 := Lib.hid (HF.out.trans f10 (fun _ _ q => q))
          have hbn := Blk.new w10 31 (cellsB (nought 128)).toArray
          clear f10 HR1 HF q0
          go_wp2_with (first
            | (refine wpList_zero rfl 31 rfl zeroSector ?_)
            | (refine wpList_store_mid rfl 31 _ _ rfl w10.heap.size 0 (cellsB s).toArray rfl rfl (hbn.there (by simp [cellsB_len, nought_len, HL.out])) (by rw [infoSector]; simp [cellsB_len, HL.out]) (all_oneCell_toArray (cellsB_one _)) ?_))
          have hb4 := hbn.over (o := 0) (m := s) (by rw [nought_len, HL.out]; omega)
          rw [patch_all (by rw [nought_len, HL.out])] at hb4
          have f4 : Fr (fun _ => False) w10 ((w10.alloc (.cells (cellsB (nought 128)).toArray 31)).setCells w10.heap.size 0 (cellsB s)) := Fr.setCells (.inr (Nat.le_refl _)) ((Fr.refl _ w10).alloc _)
          have HF11 := Lib.hid (HF10.out.trans f4 (fun _ _ q => q))
          generalize (w10.alloc (.cells (cellsB (nought 128)).toArray 31)).setCells w10.heap.size 0 (cellsB s) = w11 at *
          obtain ⟨bs, hbs⟩ : ∃ bs, bs = w10.heap.size := ⟨_, rfl⟩
          rw [← hbs] at hb4 ⊢
          have HB11 := Lib.hid hb4
          clear hbn f4 hb4 hbs HF10
          have HC : Hid (∀ w', Fr (fun _ => False) w11 w' → w'.rangeAt bs 0 (cellsB s) ∧ Calls Try.prog 11 #[.pointer (some ⟨g', 0, none⟩), .int .i64 j] w' fun e w'' => e = .returned (av s) ∧ Fr (fun _ => False) w11 w'') := Lib.hid fun w' f =>
            ⟨by have q := Blk.range (HB11.out.keep f (fun q => q)) 0 128; rwa [List.drop_zero, List.take_of_length_le (Nat.le_of_eq HL.out)] at q, (HR2.out w' (HF11.out.trans f (fun _ _ q => q))).mono fun e w3 he => ⟨he.1, f.trans he.2 (fun _ _ q => q)⟩⟩
          have hu := Try.underlying31
          have hszs : (Try.prog.info? 31).map (·.size) = some (cellsB s).length := by rw [infoSector, cellsB_len, HL.out]
          have hneq : ∀ w, (binOp .neq 31 (.agg (cellsB s).toArray) (.agg (cellsB s).toArray)).run Try.prog w = .ok (.bool false) w := fun w => by
            have := sec_neq s s HL.out HL.out w
            simpa using this
          clear HR2 HB11
          refine wp_region_held_drew (S := fun w' => Fr (fun _ => False) w11 w') (by kernel_rfl) ((Fr.refl _ _).drew) (fun hS0 => ?_)
          refine anyH_take 0 69 (.int .i64 0) rfl rfl (by kernel_rfl) (by kernel_rfl) (by kernel_rfl) (fun _ _ _ h => h) (.inl ⟨by rfl, fun w'' hS => by go_simp⟩) hS0 ?_
          (simp only [List.setIfInBounds_toArray, List.set_cons_zero, List.set_cons_succ])
          refine anyH_take 1 70 (.bool false) rfl rfl (by kernel_rfl) (by kernel_rfl) (by kernel_rfl) (fun _ _ _ h => h) (.inl ⟨by rfl, fun w'' hS => by go_simp⟩) hS0 ?_
          (simp only [List.setIfInBounds_toArray, List.set_cons_zero, List.set_cons_succ])
          refine anyH_take 2 71 (.bool false) rfl rfl (by kernel_rfl) (by kernel_rfl) (by kernel_rfl) (fun _ _ _ h => h) (.inl ⟨by rfl, fun w'' hS => by go_simp⟩) hS0 ?_
          (simp only [List.setIfInBounds_toArray, List.set_cons_zero, List.set_cons_succ])
          refine anyH_take 3 72 (.agg (cellsB s).toArray) rfl rfl (by kernel_rfl) (by kernel_rfl) (by kernel_rfl) (fun _ _ _ h => h) (yieldsIf_load_mid (by rfl) _ _ rfl _ _ rfl _ _ (fun w' f => (HC.out w' f).1) hu rfl hszs) hS0 ?_
          (simp only [List.setIfInBounds_toArray, List.set_cons_zero, List.set_cons_succ])
          refine anyH_take 4 73 (.pointer (some ⟨g', 0, none⟩)) rfl rfl (by kernel_rfl) (by kernel_rfl) (by kernel_rfl) (fun _ _ _ h => h) (.inl ⟨by rfl, fun w'' hS => by go_simp⟩) hS0 ?_
          (simp only [List.setIfInBounds_toArray, List.set_cons_zero, List.set_cons_succ])
          refine anyH_take 5 74 (.int .i64 (j : Nat)) rfl rfl (by kernel_rfl) (by kernel_rfl) (by kernel_rfl) (fun _ _ _ h => h) (.inl ⟨by rfl, fun w'' hS => by go_simp⟩) hS0 ?_
          (simp only [List.setIfInBounds_toArray, List.set_cons_zero, List.set_cons_succ])
          refine anyH_one 6 75 (av s) (by kernel_rfl) (tame_call 75 rfl rfl (by rfl) (fun w'' hS => by go_simp) (fun w'' hS => (HC.out w'' hS).2)) hS0 (fun w12 hS0 => ?_)
          (simp only [List.setIfInBounds_toArray, List.set_cons_zero, List.set_cons_succ])
          refine anyH_take 7 76 (.bool false) rfl rfl (by kernel_rfl) (by kernel_rfl) (by kernel_rfl) (fun _ _ _ h => h) (.inl ⟨by rfl, fun w'' hS => by go_simp⟩) hS0 ?_
          (simp only [List.setIfInBounds_toArray, List.set_cons_zero, List.set_cons_succ])
          refine anyH_take 8 77 (.bool false) rfl rfl (by kernel_rfl) (by kernel_rfl) (by kernel_rfl) (fun _ _ _ h => h) (.inl ⟨by rfl, fun w'' hS => by go_simp⟩) hS0 ?_
          (simp only [List.setIfInBounds_toArray, List.set_cons_zero, List.set_cons_succ])
          refine wpAnyH_done (by kernel_rfl) ?_ _
          clear hu hszs hneq HC
          go_wp2_with fail
          exact ⟨⟨j + 1, by go_num, by omega, Lib.hid (HF11.out.trans hS0 (fun _ _ q => q))⟩, by simp [intOf]; omega⟩
        · obtain rfl : n = j := by omega
          go_wp2_with fail
          go_ret
          exact ⟨rfl, HF.out⟩
end
end Go.Proofs.Ytiobmejnamdneaa
