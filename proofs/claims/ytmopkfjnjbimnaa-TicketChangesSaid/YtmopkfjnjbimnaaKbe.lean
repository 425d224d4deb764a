/- Kbe: laid together out of Sre Srk. -/
import Derived.Test.YtmopkfjnjbimnaaKbd
namespace Go.Proofs.Ytmopkfjnjbimnaa
open Go.RowKit

set_option maxRecDepth 100000 in
theorem rmays_any (n : Int) (w : World) : Calls Try.prog 56 #[.int .i64 n] w fun e w' => e = .returned (.bool (mayS n)) ∧ w' = w := by
  by_cases h1 : n ≥ 1
  · by_cases h2 : n ≤ 9
    · have hm : mayS n = true := decide_eq_true ⟨h1, h2⟩
      rw [hm]
      go_enter Try.func56, Try.ntmps56
      go_wp2_with fail
      go_ret
      exact ⟨rfl, rfl⟩
    · have hm : mayS n = false := decide_eq_false (fun q => h2 q.2)
      rw [hm]
      go_enter Try.func56, Try.ntmps56
      go_wp2_with fail
      go_ret
      exact ⟨rfl, rfl⟩
  · have hm : mayS n = false := decide_eq_false (fun q => h1 q.1)
    rw [hm]
    go_enter Try.func56, Try.ntmps56
    go_wp2_with fail
    go_ret
    exact ⟨rfl, rfl⟩
/-- The table's rows, as values. -/
def rowsV : Array Value := #[.string ⟨#[79, 67, 69, 82, 86, 83, 65]⟩, .string ⟨#[67, 79, 76]⟩, .string ⟨#[76, 67, 70]⟩, .string ⟨#[70]⟩, .string ⟨#[69]⟩, .string ⟨#[82]⟩, .string ⟨#[86]⟩, .string ⟨#[83, 79, 82]⟩, .string ⟨#[65, 79, 70]⟩]
def rowA (a : Nat) : ByteArray := ⟨(rowB a).toArray⟩
set_option maxRecDepth 100000 in
theorem rowsV_at {a : Nat} (h1 : 1 ≤ a) (h2 : a ≤ 9) : rowsV[a - 1]? = some (.string (rowA a)) := by
  have h : a = 1 ∨ a = 2 ∨ a = 3 ∨ a = 4 ∨ a = 5 ∨ a = 6 ∨ a = 7 ∨ a = 8 ∨ a = 9 := by omega
  rcases h with rfl | rfl | rfl | rfl | rfl | rfl | rfl | rfl | rfl <;> rfl
set_option maxRecDepth 100000 in
theorem infoStr : (Try.prog.info? 9).map (fun i => (i.zero, i.size, i.bytes)) = some (some (.string ⟨#[]⟩), 1, 16) := by kernel_rfl
set_option maxRecDepth 100000 in
set_option maxHeartbeats 1000000 in
theorem rrows_any (w : World) : Calls Try.prog 57 #[] w fun e w' => e = .returned (.slice (some ⟨w.heap.size, 0, none⟩) 9 9) ∧ w' = w.alloc (.cells rowsV 9) := by
  go_enter Try.func57, Try.ntmps57
  go_wp2_with fail
  go_ret
  exact ⟨rfl, rfl⟩
/-- A letter as a text. -/
def letA (a : Int) : ByteArray := if mayS a then (rowA a.toNat).extract 0 1 else ⟨#[]⟩
set_option maxRecDepth 100000 in
theorem sext_list (s : ByteArray) (i j : Nat) : (s.extract i j).data.toList = (s.data.toList.take j).drop i := by
  simp [ByteArray.extract, ByteArray.copySlice, List.drop_take]
set_option maxRecDepth 100000 in
theorem letA_list (a : Int) : (letA a).data.toList = letterS a := by
  unfold letA letterS
  split
  · rw [sext_list]
    unfold rowA letB
    simp
  · rfl
set_option maxRecDepth 100000 in
theorem row_size {k : Nat} (h1 : 1 ≤ k) (h2 : k ≤ 9) : 1 ≤ (rowA k).size ∧ (rowA k).size ≤ 7 := by
  have h : k = 1 ∨ k = 2 ∨ k = 3 ∨ k = 4 ∨ k = 5 ∨ k = 6 ∨ k = 7 ∨ k = 8 ∨ k = 9 := by omega
  rcases h with rfl | rfl | rfl | rfl | rfl | rfl | rfl | rfl | rfl <;> decide
set_option maxRecDepth 100000 in
theorem size_lst (s : ByteArray) : s.size = s.data.toList.length := (Array.length_toList).symm
set_option maxRecDepth 100000 in
set_option maxHeartbeats 1000000 in
theorem rletter_any (a : Int) (w : World) : Calls Try.prog 91 #[.int .i64 a] w fun e w' => e = .returned (.string (letA a)) ∧ Fr (fun _ => False) w w' := by
  have HM := Lib.hid (rmays_any a)
  cases hm : mayS a with
  | false =>
    have e : letA a = ⟨#[]⟩ := by unfold letA; rw [hm]; rfl
    rw [e]
    rw [hm] at HM
    clear hm e
    go_enter Try.func91, Try.ntmps91
    go_wp2_with fail
    refine (HM.out _).mono ?_
    rintro e w1 ⟨rfl, rfl⟩
    go_wp2_with fail
    go_ret
    exact ⟨rfl, Fr.refl _ _⟩
  | true =>
    rw [hm] at HM
    have hr : 1 ≤ a ∧ a ≤ 9 := of_decide_eq_true hm
    obtain ⟨k, rfl⟩ : ∃ k : Nat, a = k := ⟨a.toNat, by omega⟩
    have e : letA (k : Int) = (rowA k).extract 0 1 := by unfold letA; rw [hm, Int.toNat_natCast]; rfl
    rw [e]
    obtain ⟨i, hi⟩ : ∃ i, i = k - 1 := ⟨_, rfl⟩
    have hki : (k : Int) - 1 = (i : Int) := by omega
    have hat := rowsV_at (a := k) (by omega) (by omega)
    rw [← hi] at hat
    have hrs := row_size (k := k) (by omega) (by omega)
    have hsz : (1 : Int) ≤ ((rowA k).size : Int) := by omega
    have hi9 : (i : Int) < 9 := by omega
    have hi0 : (0 : Int) ≤ (i : Int) := by omega
    have hk1 : (1 : Int) ≤ (k : Int) := by omega
    have hk9 : (k : Int) ≤ 9 := by omega
    have HR := Lib.hid rrows_any
    have HA := Lib.hid hat
    clear hm hr e hat hi hrs
    go_enter Try.func91, Try.ntmps91
    go_wp2_with fail
    refine (HM.out _).mono ?_
    rintro e w1 ⟨rfl, rfl⟩
    go_wp2_with fail
    refine (HR.out _).mono ?_
    rintro e w2 ⟨rfl, hw2⟩
    have hc : w2.cell? ⟨w1.heap.size, i, none⟩ = some (.string (rowA k)) := by
      rw [hw2, (Blk.new w1 9 rowsV).cell, HA.out]
    have HF : Hid (Fr (fun _ => False) w1 w2) := Lib.hid (by rw [hw2]; exact (Fr.refl _ _).alloc _)
    clear hw2
    go_wp2_with fail
    go_ret
    exact ⟨rfl, HF.out⟩
set_option maxRecDepth 100000 in
theorem lead_at {ka kb i : Nat} (hb1 : 1 ≤ kb) (hb9 : kb ≤ 9) (hi : i < (rowA ka).size) : (((rowA ka).extract i (i + 1)).toList == (letA (kb : Int)).toList) = ((rowB ka).getD i 0 == (rowB kb).getD 0 0) := by
  have hl : (letA (kb : Int)).data.toList = [(rowB kb).getD 0 0] := by
    rw [letA_list]
    unfold letterS
    rw [show mayS (kb : Int) = true from decide_eq_true (by omega), if_pos rfl, Int.toNat_natCast]
    have h : kb = 1 ∨ kb = 2 ∨ kb = 3 ∨ kb = 4 ∨ kb = 5 ∨ kb = 6 ∨ kb = 7 ∨ kb = 8 ∨ kb = 9 := by omega
    rcases h with rfl | rfl | rfl | rfl | rfl | rfl | rfl | rfl | rfl <;> rfl
  have hs : (rowA ka).data.toList = rowB ka := rfl
  have hil : i < (rowB ka).length := by rw [← hs, ← size_lst]; exact hi
  have he : ((rowA ka).extract i (i + 1)).data.toList = [(rowB ka).getD i 0] := by
    rw [sext_list, hs, List.take_add_one, List.getElem?_eq_getElem hil, List.drop_append_of_le_length (by simp; omega), List.drop_eq_nil_of_le (by simp; omega), List.getD_eq_getElem?_getD, List.getElem?_eq_getElem hil]
    rfl
  rw [ByteArray.toList_eq, ByteArray.toList_eq, hl, he, Bool.eq_iff_iff, beq_iff_eq, beq_iff_eq]
  simp
set_option maxRecDepth 100000 in
set_option maxHeartbeats 2000000 in
theorem rleads_any (a b : Int) (w : World) : Calls Try.prog 55 #[.int .i64 a, .int .i64 b] w fun e w' => e = .returned (.bool (leadsS a b)) ∧ Fr (fun _ => False) w w' := by
  have HM := Lib.hid (rmays_any a)
  have HN := Lib.hid (rmays_any b)
  cases hm : mayS a with
  | false =>
    have e : leadsS a b = false := by unfold leadsS; rw [hm]; rfl
    rw [e]
    rw [hm] at HM
    clear hm e HN
    go_enter Try.func55, Try.ntmps55
    go_wp2_with fail
    refine (HM.out _).mono ?_
    rintro e w1 ⟨rfl, rfl⟩
    go_wp2_with fail
    go_ret
    exact ⟨rfl, Fr.refl _ _⟩
  | true =>
    rw [hm] at HM
    cases hn : mayS b with
    | false =>
      have e : leadsS a b = false := by unfold leadsS; rw [hm, hn]; rfl
      rw [e]
      rw [hn] at HN
      clear hm hn e
      go_enter Try.func55, Try.ntmps55
      go_wp2_with fail
      refine (HM.out _).mono ?_
      rintro e w1 ⟨rfl, rfl⟩
      go_wp2_with fail
      refine (HN.out _).mono ?_
      rintro e w1 ⟨rfl, rfl⟩
      go_wp2_with fail
      go_ret
      exact ⟨rfl, Fr.refl _ _⟩
    | true =>
      rw [hn] at HN
      have hr : 1 ≤ a ∧ a ≤ 9 := of_decide_eq_true hm
      have hs : 1 ≤ b ∧ b ≤ 9 := of_decide_eq_true hn
      obtain ⟨ka, rfl⟩ : ∃ k : Nat, a = k := ⟨a.toNat, by omega⟩
      obtain ⟨kb, hkb⟩ : ∃ k : Nat, b = k := ⟨b.toNat, by omega⟩
      obtain ⟨x, hx⟩ : ∃ x, x = leadsS (ka : Int) b := ⟨_, rfl⟩
      rw [← hx]
      have hxr : x = ((rowB ka).drop 1).contains ((rowB kb).getD 0 0) := by
        have := all9_of (all9_of leads_row (n := ka) (by omega) (by omega)) (n := kb) (by omega) (by omega)
        rw [beq_iff_eq] at this
        rw [hx, this]
        unfold leadsS
        rw [hm, hn, hkb]
        rfl
      obtain ⟨j, hj⟩ : ∃ j, j = ka - 1 := ⟨_, rfl⟩
      have hki : (ka : Int) - 1 = (j : Int) := by omega
      have hat := rowsV_at (a := ka) (by omega) (by omega)
      rw [← hj] at hat
      have hrs := row_size (k := ka) (by omega) (by omega)
      have hi9 : (j : Int) < 9 := by omega
      have hi0 : (0 : Int) ≤ (j : Int) := by omega
      have hk1 : (1 : Int) ≤ (ka : Int) := by omega
      have hk9 : (ka : Int) ≤ 9 := by omega
      have HR := Lib.hid rrows_any
      have HA := Lib.hid hat
      have HL := Lib.hid (rletter_any b)
      have HX0 := Lib.hid (And.intro hxr (And.intro hrs (show 1 ≤ kb ∧ kb ≤ 9 by omega)))
      have hle : ∀ i, i < (rowA ka).size → (((rowA ka).extract i (i + 1)).toList == (letA b).toList) = ((rowB ka).getD i 0 == (rowB kb).getD 0 0) := fun i hi => by rw [hkb]; exact lead_at (by omega) (by omega) hi
      have HLE := Lib.hid hle
      have hz7 : ((rowA ka).size : Int) ≤ 7 := by omega
      clear hm hn hr hs hx hxr hat hj hrs hkb hle
      go_enter Try.func55, Try.ntmps55
      go_wp2_with fail
      refine (HM.out _).mono ?_
      rintro e w1 ⟨rfl, rfl⟩
      go_wp2_with fail
      refine (HN.out _).mono ?_
      rintro e w1 ⟨rfl, rfl⟩
      go_wp2_with fail
      refine (HR.out _).mono ?_
      rintro e w2 ⟨rfl, hw2⟩
      have hc : w2.cell? ⟨w1.heap.size, j, none⟩ = some (.string (rowA ka)) := by
        rw [hw2, (Blk.new w1 9 rowsV).cell, HA.out]
      have HF2 : Hid (Fr (fun _ => False) w1 w2) := Lib.hid (by rw [hw2]; exact (Fr.refl _ _).alloc _)
      clear hw2
      go_wp2_with fail
      clear hc HM HN HR HA
      go_loopw [6] (fun x' wr => ∃ i : Nat, x' = .int .i64 i ∧ 1 ≤ i ∧ i ≤ (rowA ka).size ∧ Hid (∀ j, 1 ≤ j → j < i → ((rowB ka).getD j 0 == (rowB kb).getD 0 0) = false) ∧ Hid (Fr (fun _ => False) w1 wr)) (fun x' _ => (rowA ka).size - (intOf x').toNat)
      case atStart => exact ⟨1, rfl, by omega, HX0.out.2.1.1, Lib.hid (fun j h1 h2 => absurd h1 (by omega)), HF2⟩
      case round =>
        clear HF2
        obtain ⟨i, rfl, hi1, hi2, HB, HF⟩ := hrel
        by_cases hlt : i < (rowA ka).size
        · have hii : (i : Int) < ((rowA ka).size : Int) := by omega
          have hi7 : (i : Int) + 1 ≤ 8 := by omega
          have HI := Lib.hid (And.intro hi7 (And.intro (show (0 : Int) ≤ (i : Int) by omega) (And.intro (show (i : Int) ≤ (i : Int) + 1 by omega) (show (i : Int) + 1 ≤ ((rowA ka).size : Int) by omega))))
          have hE := HLE.out i hlt
          cases hq : ((rowB ka).getD i 0 == (rowB kb).getD 0 0) with
          | true =>
            rw [hq] at hE
            have HX := Lib.hid hE
            have hxt : x = true := by
              rw [HX0.out.1, List.contains_iff_mem]
              rw [beq_iff_eq] at hq
              have hil : i < (rowB ka).length := by have : (rowA ka).size = (rowB ka).length := size_lst _; omega
              refine List.mem_of_getElem? (i := i - 1) ?_
              rw [List.getElem?_drop, show 1 + (i - 1) = i by omega, ← hq, List.getD_eq_getElem?_getD, List.getElem?_eq_getElem hil]
              rfl
            subst hxt
            clear hE hq hlt HB HLE
            go_wp2_with fail
            refine wp_region_held_drew (S := fun w' => Fr (fun _ => False) w1 w') (by kernel_rfl) (HF.out.drew) (fun hS0 => ?_)
            refine anyH_take 0 26 (.string (rowA ka)) rfl rfl (by kernel_rfl) (by kernel_rfl) (by kernel_rfl) (fun _ _ _ h => h) (.inl ⟨by rfl, fun w'' hS => by go_simp⟩) hS0 ?_
            (simp only [List.setIfInBounds_toArray, List.set_cons_zero, List.set_cons_succ])
            refine anyH_take 1 27 (.int .i64 (i : Nat)) rfl rfl (by kernel_rfl) (by kernel_rfl) (by kernel_rfl) (fun _ _ _ h => h) (.inl ⟨by rfl, fun w'' hS => by go_simp⟩) hS0 ?_
            (simp only [List.setIfInBounds_toArray, List.set_cons_zero, List.set_cons_succ])
            refine anyH_take 2 28 (.int .i64 (i : Nat)) rfl rfl (by kernel_rfl) (by kernel_rfl) (by kernel_rfl) (fun _ _ _ h => h) (.inl ⟨by rfl, fun w'' hS => by go_simp⟩) hS0 ?_
            (simp only [List.setIfInBounds_toArray, List.set_cons_zero, List.set_cons_succ])
            refine anyH_take 3 29 (.int .i64 ((i : Nat) + 1)) rfl rfl (by kernel_rfl) (by kernel_rfl) (by kernel_rfl) (fun _ _ _ h => h) (.inl ⟨by rfl, fun w'' hS => by have q0 := wrapI_id (z := (i : Int) + 1) (by have := HI.out.2.1; omega) (by have := HI.out.1; omega); go_simp⟩) hS0 ?_
            (simp only [List.setIfInBounds_toArray, List.set_cons_zero, List.set_cons_succ])
            refine anyH_take 4 30 (.string ((rowA ka).extract i (i + 1))) rfl rfl (by kernel_rfl) (by kernel_rfl) (by kernel_rfl) (fun _ _ _ h => h) (.inl ⟨by rfl, fun w'' hS => by have q0 := HI.out.2.1; have q1 := HI.out.2.2.1; have q2 := HI.out.2.2.2; go_simp⟩) hS0 ?_
            (simp only [List.setIfInBounds_toArray, List.set_cons_zero, List.set_cons_succ])
            refine anyH_take 5 31 (.int .i64 b) rfl rfl (by kernel_rfl) (by kernel_rfl) (by kernel_rfl) (fun _ _ _ h => h) (.inl ⟨by rfl, fun w'' hS => by go_simp⟩) hS0 ?_
            (simp only [List.setIfInBounds_toArray, List.set_cons_zero, List.set_cons_succ])
            refine anyH_one 6 32 (.string (letA b)) (by kernel_rfl) (tame_call 32 rfl rfl (by rfl) (fun w'' hS => by go_simp) (fun w'' hS => (HL.out w'').mono fun e w3 he => ⟨he.1, hS.trans he.2 (fun _ _ q => q)⟩)) hS0 (fun wq0 hSq => ?_)
            (simp only [List.setIfInBounds_toArray, List.set_cons_zero, List.set_cons_succ])
            refine anyH_take 7 33 (.bool true) rfl rfl (by kernel_rfl) (by kernel_rfl) (by kernel_rfl) (fun _ _ _ h => h) (.inl ⟨by rfl, fun w'' hS => by have q0 := HX.out; go_simp⟩) hSq ?_
            (simp only [List.setIfInBounds_toArray, List.set_cons_zero, List.set_cons_succ])
            refine wpAnyH_done (by kernel_rfl) ?_ _
            have HF3 := Lib.hid hSq
            clear hSq hS0
            go_wp2_with fail
            go_ret
            exact ⟨rfl, HF3.out⟩
          | false =>
            rw [hq] at hE
            have HX := Lib.hid hE
            have HB2 : Hid (∀ j, 1 ≤ j → j < i + 1 → ((rowB ka).getD j 0 == (rowB kb).getD 0 0) = false) := Lib.hid (fun j h1 h2 => by
              rcases Nat.lt_or_ge j i with h | h
              · exact HB.out j h1 h
              · obtain rfl : j = i := by omega
                exact hq)
            have HLT := Lib.hid hlt
            clear hE hq hlt HB
            go_wp2_with fail
            refine wp_region_held_drew (S := fun w' => Fr (fun _ => False) w1 w') (by kernel_rfl) (HF.out.drew) (fun hS0 => ?_)
            refine anyH_take 0 26 (.string (rowA ka)) rfl rfl (by kernel_rfl) (by kernel_rfl) (by kernel_rfl) (fun _ _ _ h => h) (.inl ⟨by rfl, fun w'' hS => by go_simp⟩) hS0 ?_
            (simp only [List.setIfInBounds_toArray, List.set_cons_zero, List.set_cons_succ])
            refine anyH_take 1 27 (.int .i64 (i : Nat)) rfl rfl (by kernel_rfl) (by kernel_rfl) (by kernel_rfl) (fun _ _ _ h => h) (.inl ⟨by rfl, fun w'' hS => by go_simp⟩) hS0 ?_
            (simp only [List.setIfInBounds_toArray, List.set_cons_zero, List.set_cons_succ])
            refine anyH_take 2 28 (.int .i64 (i : Nat)) rfl rfl (by kernel_rfl) (by kernel_rfl) (by kernel_rfl) (fun _ _ _ h => h) (.inl ⟨by rfl, fun w'' hS => by go_simp⟩) hS0 ?_
            (simp only [List.setIfInBounds_toArray, List.set_cons_zero, List.set_cons_succ])
            refine anyH_take 3 29 (.int .i64 ((i : Nat) + 1)) rfl rfl (by kernel_rfl) (by kernel_rfl) (by kernel_rfl) (fun _ _ _ h => h) (.inl ⟨by rfl, fun w'' hS => by have q0 := wrapI_id (z := (i : Int) + 1) (by have := HI.out.2.1; omega) (by have := HI.out.1; omega); go_simp⟩) hS0 ?_
            (simp only [List.setIfInBounds_toArray, List.set_cons_zero, List.set_cons_succ])
            refine anyH_take 4 30 (.string ((rowA ka).extract i (i + 1))) rfl rfl (by kernel_rfl) (by kernel_rfl) (by kernel_rfl) (fun _ _ _ h => h) (.inl ⟨by rfl, fun w'' hS => by have q0 := HI.out.2.1; have q1 := HI.out.2.2.1; have q2 := HI.out.2.2.2; go_simp⟩) hS0 ?_
            (simp only [List.setIfInBounds_toArray, List.set_cons_zero, List.set_cons_succ])
            refine anyH_take 5 31 (.int .i64 b) rfl rfl (by kernel_rfl) (by kernel_rfl) (by kernel_rfl) (fun _ _ _ h => h) (.inl ⟨by rfl, fun w'' hS => by go_simp⟩) hS0 ?_
            (simp only [List.setIfInBounds_toArray, List.set_cons_zero, List.set_cons_succ])
            refine anyH_one 6 32 (.string (letA b)) (by kernel_rfl) (tame_call 32 rfl rfl (by rfl) (fun w'' hS => by go_simp) (fun w'' hS => (HL.out w'').mono fun e w3 he => ⟨he.1, hS.trans he.2 (fun _ _ q => q)⟩)) hS0 (fun wq0 hSq => ?_)
            (simp only [List.setIfInBounds_toArray, List.set_cons_zero, List.set_cons_succ])
            refine anyH_take 7 33 (.bool false) rfl rfl (by kernel_rfl) (by kernel_rfl) (by kernel_rfl) (fun _ _ _ h => h) (.inl ⟨by rfl, fun w'' hS => by have q0 := HX.out; go_simp⟩) hSq ?_
            (simp only [List.setIfInBounds_toArray, List.set_cons_zero, List.set_cons_succ])
            refine wpAnyH_done (by kernel_rfl) ?_ _
            have HF3 := Lib.hid hSq
            clear hSq hS0
            go_wp2_with fail
            refine ⟨⟨i + 1, by go_num, by omega, by have := HLT.out; omega, HB2, HF3⟩, ?_⟩
            simp [intOf]
            have := HLT.out
            omega
        · obtain rfl : i = (rowA ka).size := by omega
          have hxf : x = false := by
            rw [HX0.out.1]
            apply Bool.eq_false_iff.2
            intro q
            rw [List.contains_iff_mem] at q
            obtain ⟨j, hj⟩ := List.mem_iff_getElem?.1 q
            rw [List.getElem?_drop] at hj
            have hjl := (List.getElem?_eq_some_iff.1 hj).1
            have : (rowA ka).size = (rowB ka).length := size_lst _
            have h2 := HB.out (1 + j) (by omega) (by omega)
            rw [List.getD_eq_getElem?_getD, hj] at h2
            simp at h2
          subst hxf
          have hii : ¬ ((rowA ka).size : Int) < ((rowA ka).size : Int) := by omega
          clear hlt HB HLE
          go_wp2_with fail
          go_ret
          exact ⟨rfl, HF.out⟩
end Go.Proofs.Ytmopkfjnjbimnaa

namespace Go.Proofs.Ytmopkfjnjbimnaa
open Go.RowKit

set_option maxRecDepth 100000 in
set_option maxHeartbeats 1000000 in
theorem rlast_any (a : Int) (w : World) : Calls Try.prog 19 #[.int .i64 a] w fun e w' => e = .returned (.bool (lastS a)) ∧ Fr (fun _ => False) w w' := by
  have HM := Lib.hid (rmays_any a)
  cases hm : mayS a with
  | false =>
    have e : lastS a = false := by unfold lastS; rw [hm]; rfl
    rw [e]
    rw [hm] at HM
    clear hm e
    go_enter Try.func19, Try.ntmps19
    go_wp2_with fail
    refine (HM.out _).mono ?_
    rintro e w1 ⟨rfl, rfl⟩
    go_wp2_with fail
    go_ret
    exact ⟨rfl, Fr.refl _ _⟩
  | true =>
    rw [hm] at HM
    have hr : 1 ≤ a ∧ a ≤ 9 := of_decide_eq_true hm
    obtain ⟨k, rfl⟩ : ∃ k : Nat, a = k := ⟨a.toNat, by omega⟩
    obtain ⟨x, hx⟩ : ∃ x, x = lastS (k : Int) := ⟨_, rfl⟩
    rw [← hx]
    have hxr : (((rowA k).size : Int) == 1) = x := by
      have := all9_of last_row (n := k) (by omega) (by omega)
      rw [beq_iff_eq] at this
      rw [hx]
      unfold lastS
      rw [hm, Int.toNat_natCast, ← this, Bool.true_and, Bool.eq_iff_iff, beq_iff_eq, decide_eq_true_eq]
      have h2 : (rowA k).size = (rowB k).length := size_lst _
      omega
    obtain ⟨i, hi⟩ : ∃ i, i = k - 1 := ⟨_, rfl⟩
    have hki : (k : Int) - 1 = (i : Int) := by omega
    have hat := rowsV_at (a := k) (by omega) (by omega)
    rw [← hi] at hat
    have hi9 : (i : Int) < 9 := by omega
    have hi0 : (0 : Int) ≤ (i : Int) := by omega
    have hk1 : (1 : Int) ≤ (k : Int) := by omega
    have hk9 : (k : Int) ≤ 9 := by omega
    have HR := Lib.hid rrows_any
    have HA := Lib.hid hat
    have HX := Lib.hid hxr
    clear hm hr hat hi hx hxr
    go_enter Try.func19, Try.ntmps19
    go_wp2_with fail
    refine (HM.out _).mono ?_
    rintro e w1 ⟨rfl, rfl⟩
    go_wp2_with fail
    refine (HR.out _).mono ?_
    rintro e w2 ⟨rfl, hw2⟩
    have hc : w2.cell? ⟨w1.heap.size, i, none⟩ = some (.string (rowA k)) := by
      rw [hw2, (Blk.new w1 9 rowsV).cell, HA.out]
    have HF : Hid (Fr (fun _ => False) w1 w2) := Lib.hid (by rw [hw2]; exact (Fr.refl _ _).alloc _)
    clear hw2
    go_wp2_with fail
    go_ret
    exact ⟨by rw [← HX.out]; rfl, HF.out⟩
end Go.Proofs.Ytmopkfjnjbimnaa

