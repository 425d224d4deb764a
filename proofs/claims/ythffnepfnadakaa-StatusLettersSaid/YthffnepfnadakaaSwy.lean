/- couponref12.Way. -/
import Derived.Test.YthffnepfnadakaaSo2
namespace Go.Proofs.Ythffnepfnadakaa
open Go.RowKit

def lvl (a : Nat) : Nat → List (List Nat)
  | 0 => [[a]]
  | k + 1 => onL (lvl a k)
theorem lvl_ok : all9 (fun a => (List.range 10).all fun k => decide ((lvl a k).length ≤ 1000) && (lvl a k).all fun r => decide (0 < r.length) && decide (r.length ≤ 100) && r.all fun x => decide (1 ≤ x ∧ x ≤ 9)) = true := by decide +kernel
theorem lvl_nines {a k : Nat} (h1 : 1 ≤ a) (h2 : a ≤ 9) (hk : k ≤ 9) : (lvl a k).length ≤ 1000 ∧ Nines (lvl a k) := by
  have h := List.all_eq_true.1 (all9_of lvl_ok h1 h2) k (by simp; omega)
  rw [Bool.and_eq_true, List.all_eq_true, decide_eq_true_eq] at h
  refine ⟨h.1, fun r hr => ?_⟩
  have h3 := h.2 r hr
  rw [Bool.and_eq_true, Bool.and_eq_true, List.all_eq_true, decide_eq_true_eq, decide_eq_true_eq] at h3
  exact ⟨h3.1.1, h3.1.2, fun x hx => of_decide_eq_true (h3.2 x hx)⟩
theorem way_hit {b k i : Nat} {rows : List (List Nat)} {r : List Nat} (hi : rows[i]? = some r) (hr : r.getLastD 0 = b) (hb : ∀ (j : Nat) (q : List Nat), j < i → rows[j]? = some q → q.getLastD 0 ≠ b) : wayGo b (k + 1) rows = r := by
  have hf : rows.find? (fun r => r.getLastD 0 == b) = some r := by
    rw [List.find?_eq_some_iff_getElem]
    obtain ⟨hl, he⟩ := List.getElem?_eq_some_iff.1 hi
    refine ⟨by rw [beq_iff_eq]; exact hr, i, hl, he, fun j hj => ?_⟩
    have := hb j _ hj (List.getElem?_eq_getElem (Nat.lt_trans hj hl))
    simpa using this
  rw [wayGo, hf]
theorem way_miss {b k : Nat} {rows : List (List Nat)} (hb : ∀ (j : Nat) (q : List Nat), rows[j]? = some q → q.getLastD 0 ≠ b) : wayGo b (k + 1) rows = wayGo b k (onL rows) := by
  have hf : rows.find? (fun r => r.getLastD 0 == b) = none := by
    rw [List.find?_eq_none]
    intro q hq
    obtain ⟨j, hj⟩ := List.mem_iff_getElem?.1 hq
    have := hb j q hj
    simpa using this
  rw [wayGo, hf]
theorem way_start {w : World} (a : Nat) : LstS ((w.alloc (.cells #[.int .i64 (a : Int)] 22)).alloc (.cells #[.slice (some ⟨w.heap.size, 0, none⟩) 1 1] 25)) w.heap.size (.slice (some ⟨w.heap.size + 1, 0, none⟩) 1 1) [[a]] := by
  have hsz : (w.alloc (.cells #[.int .i64 (a : Int)] 22)).heap.size = w.heap.size + 1 := by simp
  rw [← hsz]
  clear hsz
  have hb1 := Blk.new w 22 #[.int .i64 (a : Int)]
  have hlt : w.heap.size < (w.alloc (.cells #[.int .i64 (a : Int)] 22)).heap.size := World.block_lt_of_cell? _ ⟨w.heap.size, 0, none⟩ (hb1.cell 0)
  generalize hw1 : w.alloc (.cells #[.int .i64 (a : Int)] 22) = w1 at hb1 hlt ⊢
  have f2 : Fr (fun _ => False) w1 (w1.alloc (.cells #[.slice (some ⟨w.heap.size, 0, none⟩) 1 1] 25)) := (Fr.refl _ _).alloc _
  have hb2 := Blk.new w1 25 #[.slice (some ⟨w.heap.size, 0, none⟩) 1 1]
  refine ⟨[.slice (some ⟨w.heap.size, 0, none⟩) 1 1], ⟨rfl, .inr ⟨w1.heap.size, 1, _, rfl, Nat.le_of_lt hlt, hb2, Nat.le_refl _, by simp [maxLen], rfl, rfl⟩⟩, rfl, fun i l hi => ?_⟩
  match i, hi with
  | 0, hi =>
    have hl : [a] = l := by simpa using hi
    subst hl
    refine ⟨_, rfl, ⟨_, 1, rfl, by simp [upN, maxLen], fun _ => ⟨w.heap.size, 0, rfl, fun j z hz => ?_⟩⟩, fun b hb => ?_⟩
    · match j, hz with
      | 0, hz =>
        have hz2 : (a : Int) = z := by simpa [upN] using hz
        subst hz2
        exact (f2.cell hlt (fun q => q)).trans (hb1.cell 0)
    · have hb' : w.heap.size = b := by
        have : some w.heap.size = some b := hb
        injection this
      subst hb'
      refine ⟨Nat.le_refl _, fun q => ?_, Nat.lt_of_lt_of_le hlt f2.size⟩
      have : some w1.heap.size = some w.heap.size := q
      injection this
      omega
set_option maxRecDepth 100000 in
set_option maxHeartbeats 4000000 in
theorem rway_any (a b : Nat) (ha1 : 1 ≤ a) (ha9 : a ≤ 9) (w : World) : Calls Try.prog 21 #[.int .i64 a, .int .i64 b] w fun e w' => ∃ v, e = .returned v ∧ IntsAt w' v (upN (wayL a b)) ∧ Fr (fun _ => False) w w' := by
  have HS := Lib.hid (way_start (w := w) a)
  have HLV := Lib.hid (fun k (hk : k ≤ 9) => lvl_nines ha1 ha9 hk)
  obtain ⟨Y, hY⟩ : ∃ Y, Y = wayL a b := ⟨_, rfl⟩
  have HY : Hid (Y = wayGo b (9 - 0) (lvl a 0)) := Lib.hid hY
  rw [← hY]
  clear hY ha1 ha9
  go_enter Try.func21, Try.ntmps21
  go_wp2_with fail
  go_loopw [5, 6] (fun o x wr => ∃ (ov : Value) (k base : Nat), ov = o ∧ x = .int .i64 k ∧ k ≤ 9 ∧ Hid (LstS wr base ov (lvl a k)) ∧ Hid (Fr (fun _ => False) w wr) ∧ Hid (Y = wayGo b (9 - k) (lvl a k))) (fun _ x _ => 9 - (intOf x).toNat)
  case atStart => exact ⟨_, 0, _, rfl, rfl, Nat.zero_le _, HS, Lib.hid (((Fr.refl _ w).alloc _).alloc _), HY⟩
  case round =>
    clear HS HY
    obtain ⟨o, k, base, ho, rfl, hk, HO, HF, HY⟩ := hrel
    subst ho
    by_cases hk9 : k < 9
    · have hki : (k : Int) < 9 := by omega
      obtain ⟨A0, c0, hof, hml⟩ := HO.out.form
      obtain ⟨m, hm⟩ : ∃ m, m = (lvl a k).length := ⟨_, rfl⟩
      rw [← hm] at hof
      subst hof
      obtain ⟨hn1, hn2⟩ := HLV.out k hk
      have HN := Lib.hid (And.intro hn2 (And.intro hm hk9))
      have hm9 : m ≤ 1000 := by omega
      clear hn1 hn2 hml hm hk9
      go_wp2_with fail
      have HO0 := HO
      have HF0 := HF
      clear HO HF
      go_loopw [7] (fun x wq => ∃ i : Nat, x = .int .i64 i ∧ i ≤ m ∧ Hid (LstS wq base (.slice A0 m c0) (lvl a k)) ∧ Hid (Fr (fun _ => False) w wq) ∧ Hid (∀ (j : Nat) (q : List Nat), j < i → (lvl a k)[j]? = some q → q.getLastD 0 ≠ b)) (fun x _ => m - (intOf x).toNat)
      case atStart => exact ⟨0, rfl, Nat.zero_le _, HO0, HF0, Lib.hid (fun j q h => absurd h (by omega))⟩
      case round =>
        clear HO0 HF0
        obtain ⟨i, rfl, hi, HO, HF, HB⟩ := hrel
        by_cases hlt : i < m
        · obtain ⟨r, hr⟩ : ∃ r, (lvl a k)[i]? = some r := ⟨_, List.getElem?_eq_getElem (by have := HN.out.2.1; omega)⟩
          obtain ⟨g, cap, u, e1, hd1, hu⟩ := HO.out.at_ hr
          have hm' := HN.out.2.1
          rw [← hm'] at e1
          obtain ⟨rfl, rfl⟩ : A0 = some ⟨g, 0, none⟩ ∧ c0 = cap := by injection e1 with a b c; exact ⟨a, c⟩
          obtain ⟨hr1, hr2, hr3⟩ := HN.out.1 r (List.mem_of_getElem? hr)
          have HU := Lib.hid hu
          obtain ⟨Au, c1, rfl, hmu, hcu⟩ := hu
          obtain ⟨q, hq⟩ : ∃ q, q = r.length := ⟨_, rfl⟩
          rw [upN_len, ← hq] at hd1 HU
          obtain ⟨b1, o1, rfl, hcA⟩ := hcu (by rw [upN_len]; omega)
          obtain ⟨p, hp⟩ : ∃ p, p = q - 1 := ⟨_, rfl⟩
          obtain ⟨x1, hx1⟩ : ∃ x, r[p]? = some x := ⟨_, List.getElem?_eq_getElem (by omega)⟩
          have hd2 := hcA p _ (upN_get hx1)
          have hlast : r.getLastD 0 = x1 := by
            rw [List.getLastD_eq_getLast?, List.getLast?_eq_getElem?, show r.length - 1 = p by omega, hx1]
            rfl
          have hl1 := World.block_lt_of_cell? wr _ hd1
          have hl2 := World.block_lt_of_cell? wr _ hd2
          have HC := Lib.hid (And.intro (fun w'' (f : Fr (fun _ => False) wr w'') => (f.cell (p := ⟨g, i, none⟩) hl1 (fun q => q)).trans hd1) (fun w'' (f : Fr (fun _ => False) wr w'') => (f.cell (p := ⟨b1, o1 + p, none⟩) hl2 (fun q => q)).trans hd2))
          have HI := Lib.hid (And.intro (show (0 : Int) ≤ (i : Int) by omega) (And.intro (show (i : Int) < (m : Int) by omega) (And.intro (show (q : Int) - 1 = (p : Int) by omega) (And.intro (show (0 : Int) ≤ (p : Int) by omega) (And.intro (show (p : Int) < (q : Int) by omega) (show (p : Int) ≤ 1000 by omega))))))
          have hii : (i : Int) < (m : Int) := by omega
          have hi0 : (0 : Int) ≤ (i : Int) := by omega
          by_cases hxb : x1 = b
          · have HX : Hid (((x1 : Int) == (b : Int)) = true) := Lib.hid (by rw [beq_iff_eq]; omega)
            have hk1 : 9 - k = (8 - k) + 1 := by have := HN.out.2.2; omega
            have hYr : Y = r := by
              rw [HY.out, hk1]
              exact way_hit hr (hlast.trans hxb) HB.out
            have HU2 : Hid (IntsAt wr (.slice (some ⟨b1, o1, none⟩) q c1) (upN Y)) := Lib.hid (by rw [hYr]; exact HU.out)
            clear hd2 hl1 hl2 hlast hx1 hp hcA hq hr hr1 hr2 hr3 hmu e1 hm' hlt HB hk1 hYr HU hxb
            go_wp2_with fail
            refine wp_region_held_drew (S := fun w' => Fr (fun _ => False) wr w') (by kernel_rfl) ((Fr.refl _ wr).drew) (fun hS0 => ?_)
            refine anyH_take 0 21 (.slice (some ⟨g, 0, none⟩) m c0) rfl rfl (by kernel_rfl) (by kernel_rfl) (by kernel_rfl) (fun _ _ _ h => h) (.inl ⟨by rfl, fun w'' hS => by go_simp⟩) hS0 ?_
            (simp only [List.setIfInBounds_toArray, List.set_cons_zero, List.set_cons_succ])
            refine anyH_take 1 22 (.int .i64 (i : Nat)) rfl rfl (by kernel_rfl) (by kernel_rfl) (by kernel_rfl) (fun _ _ _ h => h) (.inl ⟨by rfl, fun w'' hS => by go_simp⟩) hS0 ?_
            (simp only [List.setIfInBounds_toArray, List.set_cons_zero, List.set_cons_succ])
            refine anyH_take 2 23 (.pointer (some ⟨g, i, none⟩)) rfl rfl (by kernel_rfl) (by kernel_rfl) (by kernel_rfl) (fun _ _ _ h => h) (.inl ⟨by rfl, fun w'' hS => by have q0 := HI.out.1; have q1 := HI.out.2.1; go_simp⟩) hS0 ?_
            (simp only [List.setIfInBounds_toArray, List.set_cons_zero, List.set_cons_succ])
            refine anyH_take 3 24 (.slice (some ⟨b1, o1, none⟩) q c1) rfl rfl (by kernel_rfl) (by kernel_rfl) (by kernel_rfl) (fun _ _ _ h => h) (.inl ⟨by rfl, fun w'' hS => by have q0 := HC.out.1 w'' hS; go_simp⟩) hS0 ?_
            (simp only [List.setIfInBounds_toArray, List.set_cons_zero, List.set_cons_succ])
            refine anyH_take 4 25 (.slice (some ⟨g, 0, none⟩) m c0) rfl rfl (by kernel_rfl) (by kernel_rfl) (by kernel_rfl) (fun _ _ _ h => h) (.inl ⟨by rfl, fun w'' hS => by go_simp⟩) hS0 ?_
            (simp only [List.setIfInBounds_toArray, List.set_cons_zero, List.set_cons_succ])
            refine anyH_take 5 26 (.int .i64 (i : Nat)) rfl rfl (by kernel_rfl) (by kernel_rfl) (by kernel_rfl) (fun _ _ _ h => h) (.inl ⟨by rfl, fun w'' hS => by go_simp⟩) hS0 ?_
            (simp only [List.setIfInBounds_toArray, List.set_cons_zero, List.set_cons_succ])
            refine anyH_take 6 27 (.pointer (some ⟨g, i, none⟩)) rfl rfl (by kernel_rfl) (by kernel_rfl) (by kernel_rfl) (fun _ _ _ h => h) (.inl ⟨by rfl, fun w'' hS => by have q0 := HI.out.1; have q1 := HI.out.2.1; go_simp⟩) hS0 ?_
            (simp only [List.setIfInBounds_toArray, List.set_cons_zero, List.set_cons_succ])
            refine anyH_take 7 28 (.slice (some ⟨b1, o1, none⟩) q c1) rfl rfl (by kernel_rfl) (by kernel_rfl) (by kernel_rfl) (fun _ _ _ h => h) (.inl ⟨by rfl, fun w'' hS => by have q0 := HC.out.1 w'' hS; go_simp⟩) hS0 ?_
            (simp only [List.setIfInBounds_toArray, List.set_cons_zero, List.set_cons_succ])
            refine anyH_take 8 29 (.int .i64 (q : Nat)) rfl rfl (by kernel_rfl) (by kernel_rfl) (by kernel_rfl) (fun _ _ _ h => h) (.inl ⟨by rfl, fun w'' hS => by go_simp⟩) hS0 ?_
            (simp only [List.setIfInBounds_toArray, List.set_cons_zero, List.set_cons_succ])
            refine anyH_take 9 30 (.int .i64 (p : Nat)) rfl rfl (by kernel_rfl) (by kernel_rfl) (by kernel_rfl) (fun _ _ _ h => h) (.inl ⟨by rfl, fun w'' hS => by have q0 := HI.out.2.2.1; have q1 := wrapI_id (z := (p : Int)) (by have := HI.out.2.2.2.1; omega) (by have := HI.out.2.2.2.2.2; omega); go_simp⟩) hS0 ?_
            (simp only [List.setIfInBounds_toArray, List.set_cons_zero, List.set_cons_succ])
            refine anyH_take 10 31 (.pointer (some ⟨b1, o1 + p, none⟩)) rfl rfl (by kernel_rfl) (by kernel_rfl) (by kernel_rfl) (fun _ _ _ h => h) (.inl ⟨by rfl, fun w'' hS => by have q0 := HI.out.2.2.2.1; have q1 := HI.out.2.2.2.2.1; go_simp⟩) hS0 ?_
            (simp only [List.setIfInBounds_toArray, List.set_cons_zero, List.set_cons_succ])
            refine anyH_take 11 32 (.int .i64 (x1 : Nat)) rfl rfl (by kernel_rfl) (by kernel_rfl) (by kernel_rfl) (fun _ _ _ h => h) (.inl ⟨by rfl, fun w'' hS => by have q0 := HC.out.2 w'' hS; go_simp⟩) hS0 ?_
            (simp only [List.setIfInBounds_toArray, List.set_cons_zero, List.set_cons_succ])
            refine anyH_take 12 33 (.int .i64 (b : Nat)) rfl rfl (by kernel_rfl) (by kernel_rfl) (by kernel_rfl) (fun _ _ _ h => h) (.inl ⟨by rfl, fun w'' hS => by go_simp⟩) hS0 ?_
            (simp only [List.setIfInBounds_toArray, List.set_cons_zero, List.set_cons_succ])
            refine anyH_take 13 34 (.bool true) rfl rfl (by kernel_rfl) (by kernel_rfl) (by kernel_rfl) (fun _ _ _ h => h) (.inl ⟨by rfl, fun w'' hS => by have q0 := HX.out; go_simp⟩) hS0 ?_
            (simp only [List.setIfInBounds_toArray, List.set_cons_zero, List.set_cons_succ])
            refine wpAnyH_done (by kernel_rfl) ?_ _
            go_wp2_with fail
            go_ret
            exact ⟨_, rfl, HU2.out, HF.out.drew⟩
          · have HX : Hid (((x1 : Int) == (b : Int)) = false) := Lib.hid (by rw [beq_eq_false_iff_ne]; omega)
            have HB2 : Hid (∀ (j : Nat) (q : List Nat), j < i + 1 → (lvl a k)[j]? = some q → q.getLastD 0 ≠ b) := Lib.hid (fun j q hj hq => by
              rcases Nat.lt_or_ge j i with h | h
              · exact HB.out j q h hq
              · obtain rfl : j = i := by omega
                rw [hr] at hq
                injection hq with hq
                subst hq
                rw [hlast]
                exact hxb)
            have HLT := Lib.hid hlt
            clear hd1 hd2 hl1 hl2 hlast hx1 hp hcA hq hr hr1 hr2 hr3 hmu e1 hm' hlt HB HU hxb
            go_wp2_with fail
            refine wp_region_held_drew (S := fun w' => Fr (fun _ => False) wr w') (by kernel_rfl) ((Fr.refl _ wr).drew) (fun hS0 => ?_)
            refine anyH_take 0 21 (.slice (some ⟨g, 0, none⟩) m c0) rfl rfl (by kernel_rfl) (by kernel_rfl) (by kernel_rfl) (fun _ _ _ h => h) (.inl ⟨by rfl, fun w'' hS => by go_simp⟩) hS0 ?_
            (simp only [List.setIfInBounds_toArray, List.set_cons_zero, List.set_cons_succ])
            refine anyH_take 1 22 (.int .i64 (i : Nat)) rfl rfl (by kernel_rfl) (by kernel_rfl) (by kernel_rfl) (fun _ _ _ h => h) (.inl ⟨by rfl, fun w'' hS => by go_simp⟩) hS0 ?_
            (simp only [List.setIfInBounds_toArray, List.set_cons_zero, List.set_cons_succ])
            refine anyH_take 2 23 (.pointer (some ⟨g, i, none⟩)) rfl rfl (by kernel_rfl) (by kernel_rfl) (by kernel_rfl) (fun _ _ _ h => h) (.inl ⟨by rfl, fun w'' hS => by have q0 := HI.out.1; have q1 := HI.out.2.1; go_simp⟩) hS0 ?_
            (simp only [List.setIfInBounds_toArray, List.set_cons_zero, List.set_cons_succ])
            refine anyH_take 3 24 (.slice (some ⟨b1, o1, none⟩) q c1) rfl rfl (by kernel_rfl) (by kernel_rfl) (by kernel_rfl) (fun _ _ _ h => h) (.inl ⟨by rfl, fun w'' hS => by have q0 := HC.out.1 w'' hS; go_simp⟩) hS0 ?_
            (simp only [List.setIfInBounds_toArray, List.set_cons_zero, List.set_cons_succ])
            refine anyH_take 4 25 (.slice (some ⟨g, 0, none⟩) m c0) rfl rfl (by kernel_rfl) (by kernel_rfl) (by kernel_rfl) (fun _ _ _ h => h) (.inl ⟨by rfl, fun w'' hS => by go_simp⟩) hS0 ?_
            (simp only [List.setIfInBounds_toArray, List.set_cons_zero, List.set_cons_succ])
            refine anyH_take 5 26 (.int .i64 (i : Nat)) rfl rfl (by kernel_rfl) (by kernel_rfl) (by kernel_rfl) (fun _ _ _ h => h) (.inl ⟨by rfl, fun w'' hS => by go_simp⟩) hS0 ?_
            (simp only [List.setIfInBounds_toArray, List.set_cons_zero, List.set_cons_succ])
            refine anyH_take 6 27 (.pointer (some ⟨g, i, none⟩)) rfl rfl (by kernel_rfl) (by kernel_rfl) (by kernel_rfl) (fun _ _ _ h => h) (.inl ⟨by rfl, fun w'' hS => by have q0 := HI.out.1; have q1 := HI.out.2.1; go_simp⟩) hS0 ?_
            (simp only [List.setIfInBounds_toArray, List.set_cons_zero, List.set_cons_succ])
            refine anyH_take 7 28 (.slice (some ⟨b1, o1, none⟩) q c1) rfl rfl (by kernel_rfl) (by kernel_rfl) (by kernel_rfl) (fun _ _ _ h => h) (.inl ⟨by rfl, fun w'' hS => by have q0 := HC.out.1 w'' hS; go_simp⟩) hS0 ?_
            (simp only [List.setIfInBounds_toArray, List.set_cons_zero, List.set_cons_succ])
            refine anyH_take 8 29 (.int .i64 (q : Nat)) rfl rfl (by kernel_rfl) (by kernel_rfl) (by kernel_rfl) (fun _ _ _ h => h) (.inl ⟨by rfl, fun w'' hS => by go_simp⟩) hS0 ?_
            (simp only [List.setIfInBounds_toArray, List.set_cons_zero, List.set_cons_succ])
            refine anyH_take 9 30 (.int .i64 (p : Nat)) rfl rfl (by kernel_rfl) (by kernel_rfl) (by kernel_rfl) (fun _ _ _ h => h) (.inl ⟨by rfl, fun w'' hS => by have q0 := HI.out.2.2.1; have q1 := wrapI_id (z := (p : Int)) (by have := HI.out.2.2.2.1; omega) (by have := HI.out.2.2.2.2.2; omega); go_simp⟩) hS0 ?_
            (simp only [List.setIfInBounds_toArray, List.set_cons_zero, List.set_cons_succ])
            refine anyH_take 10 31 (.pointer (some ⟨b1, o1 + p, none⟩)) rfl rfl (by kernel_rfl) (by kernel_rfl) (by kernel_rfl) (fun _ _ _ h => h) (.inl ⟨by rfl, fun w'' hS => by have q0 := HI.out.2.2.2.1; have q1 := HI.out.2.2.2.2.1; go_simp⟩) hS0 ?_
            (simp only [List.setIfInBounds_toArray, List.set_cons_zero, List.set_cons_succ])
            refine anyH_take 11 32 (.int .i64 (x1 : Nat)) rfl rfl (by kernel_rfl) (by kernel_rfl) (by kernel_rfl) (fun _ _ _ h => h) (.inl ⟨by rfl, fun w'' hS => by have q0 := HC.out.2 w'' hS; go_simp⟩) hS0 ?_
            (simp only [List.setIfInBounds_toArray, List.set_cons_zero, List.set_cons_succ])
            refine anyH_take 12 33 (.int .i64 (b : Nat)) rfl rfl (by kernel_rfl) (by kernel_rfl) (by kernel_rfl) (fun _ _ _ h => h) (.inl ⟨by rfl, fun w'' hS => by go_simp⟩) hS0 ?_
            (simp only [List.setIfInBounds_toArray, List.set_cons_zero, List.set_cons_succ])
            refine anyH_take 13 34 (.bool false) rfl rfl (by kernel_rfl) (by kernel_rfl) (by kernel_rfl) (fun _ _ _ h => h) (.inl ⟨by rfl, fun w'' hS => by have q0 := HX.out; go_simp⟩) hS0 ?_
            (simp only [List.setIfInBounds_toArray, List.set_cons_zero, List.set_cons_succ])
            refine wpAnyH_done (by kernel_rfl) ?_ _
            go_wp2_with fail
            refine ⟨⟨i + 1, by go_num, by have := HLT.out; omega, Lib.hid (HO.out.new (Fr.refl _ _).drew), Lib.hid HF.out.drew, HB2⟩, ?_⟩
            simp [intOf]
            have := HLT.out
            omega
        · obtain rfl : i = m := by omega
          have hii : ¬ (i : Int) < (i : Int) := by omega
          have hk1 : 9 - k = (9 - (k + 1)) + 1 := by have := HN.out.2.2; omega
          have HY2 : Hid (Y = wayGo b (9 - (k + 1)) (lvl a (k + 1))) := Lib.hid (by
            rw [HY.out, hk1]
            exact way_miss (fun j q hq => HB.out j q (by have := (List.getElem?_eq_some_iff.1 hq).1; have := HN.out.2.1; omega) hq))
          have HON := Lib.hid (ron_any HO.out HN.out.1 (by have := HN.out.2.1; omega))
          have hk9 := HN.out.2.2
          have HK9 := Lib.hid hk9
          clear hlt hk1 hk9 HB HY
          go_wp2_with fail
          refine HON.out.mono ?_
          rintro e w5 ⟨v5, rfl, h5, f5⟩
          have HE := Lib.hid (And.intro h5 (HF.out.trans f5 (fun _ _ q => q)))
          clear h5 f5 HON
          go_wp2_with fail
          refine ⟨⟨v5, k + 1, _, rfl, by go_num, by have := HK9.out; omega, Lib.hid HE.out.1, Lib.hid HE.out.2, HY2⟩, ?_⟩
          simp [intOf]
          have := HK9.out
          omega
    · obtain rfl : k = 9 := by omega
      have hY : Y = [] := HY.out
      subst hY
      clear hk9 hk HY
      go_wp2_with fail
      go_ret
      exact ⟨_, rfl, ⟨none, 0, rfl, by simp [upN, maxLen], fun h => absurd h (by simp [upN])⟩, HF.out⟩
end Go.Proofs.Ythffnepfnadakaa
