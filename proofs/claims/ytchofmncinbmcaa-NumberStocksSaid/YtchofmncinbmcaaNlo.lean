/- number.Locator. -/
import Derived.Test.YtchofmncinbmcaaNtx
namespace Go.Proofs.Ytchofmncinbmcaa
open Go.RowKit

def isLocR (r : Nat) : Bool := decide (65 ≤ r ∧ r ≤ 90 ∨ 50 ≤ r ∧ r ≤ 57)
theorem nforeign_any (r : Nat) (hr : r < 2147483648) (w : World) : Calls Try.prog 41 #[.int .i32 (r : Int)] w fun e w' => e = .returned (.bool (!isLocR r)) ∧ w = w' := by
  obtain ⟨b, hb⟩ : ∃ b, b = !isLocR r := ⟨_, rfl⟩
  rw [← hb]
  have key : b = true ↔ ¬ (65 ≤ r ∧ r ≤ 90 ∨ 50 ≤ r ∧ r ≤ 57) := by rw [hb]; unfold isLocR; simp; omega
  have hc : r < 50 ∨ (50 ≤ r ∧ r ≤ 57) ∨ (57 < r ∧ r < 65) ∨ (65 ≤ r ∧ r ≤ 90) ∨ 90 < r := by omega
  clear hb
  rcases hc with h | h | h | h | h
  · have h1 : (r : Int) < 65 := by omega
    have h2 : (r : Int) < 50 := by omega
    obtain rfl : b = true := key.2 (by omega)
    clear h key
    go_enter Try.func41, Try.ntmps41
    go_wp2_with fail
    go_ret
    exact ⟨rfl, rfl⟩
  · have h1 : (r : Int) < 65 := by omega
    have h2 : ¬ (r : Int) < 50 := by omega
    have h3 : ¬ (57 : Int) < (r : Int) := by omega
    obtain rfl : b = false := by cases b with | false => rfl | true => exact absurd (key.1 rfl) (by omega)
    clear h key
    go_enter Try.func41, Try.ntmps41
    go_wp2_with fail
    go_ret
    exact ⟨by first | rfl | simp [h3], rfl⟩
  · have h1 : (r : Int) < 65 := by omega
    have h2 : ¬ (r : Int) < 50 := by omega
    have h3 : (57 : Int) < (r : Int) := by omega
    obtain rfl : b = true := key.2 (by omega)
    clear h key
    go_enter Try.func41, Try.ntmps41
    go_wp2_with fail
    go_ret
    exact ⟨by first | rfl | simp [h3], rfl⟩
  · have h1 : ¬ (r : Int) < 65 := by omega
    have h2 : ¬ (90 : Int) < (r : Int) := by omega
    obtain rfl : b = false := by cases b with | false => rfl | true => exact absurd (key.1 rfl) (by omega)
    clear h key
    go_enter Try.func41, Try.ntmps41
    go_wp2_with fail
    go_ret
    exact ⟨by first | rfl | simp [h2], rfl⟩
  · have h1 : ¬ (r : Int) < 65 := by omega
    have h2 : (90 : Int) < (r : Int) := by omega
    have h3 : ¬ (r : Int) < 50 := by omega
    have h4 : (57 : Int) < (r : Int) := by omega
    obtain rfl : b = true := key.2 (by omega)
    clear h key
    go_enter Try.func41, Try.ntmps41
    go_wp2_with fail
    go_ret
    exact ⟨by first | rfl | simp [h4], rfl⟩

/-- The place of the first byte that is in no locator, or -1: only its sign is told. -/
def IdxS (s : ByteArray) (w : World) (e : Ending) (w' : World) : Prop := ∃ n : Int, e = .returned (.int .i64 n) ∧ decide (0 ≤ n) = !(s.data.toList.all isLoc) ∧ -1 ≤ n ∧ n ≤ 1000 ∧ Fr (fun _ => False) w w'
theorem isLoc_R (c : UInt8) : isLoc c = isLocR c.toNat := rfl
set_option maxRecDepth 100000 in
set_option maxHeartbeats 1000000 in
theorem index_any (s : ByteArray) (hs : s.size ≤ 1000) (w : World) : Calls Try.prog 47 #[.string s, .func (.func 41) #[] #[], .bool true] w (IdxS s w) := by
  go_enter Try.func47, Try.ntmps47
  go_wp2_with fail
  go_loopw [] (fun wr => ∃ (pos : Nat), wr = w.iter s pos ∧ pos ≤ s.size ∧ Hid ((s.data.toList.take pos).all isLoc = true)) (fun wr => s.size - wr.iterPos w.heap.size)
  case atStart => exact ⟨0, rfl, by omega, Lib.hid rfl⟩
  case round =>
    obtain ⟨pos, rfl, hpos, HA⟩ := hrel
    by_cases hlt : pos < s.size
    · have hts := take_snoc s pos hlt
      have hbad : isLoc s[pos] = false → s.data.toList.all isLoc = false := by
        intro hd
        rw [List.all_eq_false]
        exact ⟨s[pos], List.mem_of_getElem? (get_lst s pos hlt), by rw [hd]; simp⟩
      have hp1 : (pos : Int) ≤ 1000 := by omega
      by_cases h128 : s[pos].toNat < 128
      · have hnx : ∀ ty, (Instr.next (.pointer (some ⟨w.heap.size, 0, none⟩)) true ty).run Try.prog (w.iter s pos) = _ := fun ty => run_next_ascii w s pos ty hlt h128
        have HC := Lib.hid (nforeign_any s[pos].toNat (by omega) (w.iter s (pos + 1)))
        rw [← isLoc_R] at HC
        have hall : (s.data.toList.take (pos + 1)).all isLoc = isLoc s[pos] := by rw [hts, List.all_append, HA.out]; simp
        have HL := Lib.hid (And.intro hall hbad)
        obtain ⟨b, hb⟩ : ∃ b, b = isLoc s[pos] := ⟨_, rfl⟩
        rw [← hb] at HC HL
        obtain ⟨d, hd⟩ : ∃ d, d = s[pos].toNat := ⟨_, rfl⟩
        rw [← hd] at hnx HC
        have hp2 : pos + 1 ≤ s.size := hlt
        have hF : Fr (fun _ => False) w (w.iter s (pos + 1)) := (Fr.refl _ w).alloc _
        have HF := Lib.hid hF
        clear hts hbad h128 hall hb hd HA hF
        cases b with
        | true =>
          go_wp2_with fail
          refine HC.out.mono ?_
          rintro e w1 ⟨rfl, rfl⟩
          go_wp2_with fail
          go_roundw
          case rel => exact ⟨pos + 1, rfl, hp2, Lib.hid HL.out.1⟩
          case measure =>
            simp
            omega
        | false =>
          go_wp2_with fail
          refine HC.out.mono ?_
          rintro e w1 ⟨rfl, rfl⟩
          go_wp2_with fail
          go_ret
          exact ⟨_, rfl, by rw [HL.out.2 trivial]; simp, by omega, by omega, HF.out⟩
      · have hnx : ∀ ty, (Instr.next (.pointer (some ⟨w.heap.size, 0, none⟩)) true ty).run Try.prog (w.iter s pos) = _ := fun ty => run_next_any w s pos ty hlt
        have hhi := decode_high s pos hlt (by omega)
        have hle := decode_le s pos
        have hall := hbad (by rw [isLoc_R]; unfold isLocR; rw [decide_eq_false_iff_not]; omega)
        obtain ⟨d, hd⟩ : ∃ d, d = (Utf8.decode s pos).1 := ⟨_, rfl⟩
        obtain ⟨d2, hd2⟩ : ∃ d, d = (Utf8.decode s pos).2 := ⟨_, rfl⟩
        rw [← hd, ← hd2] at hnx
        rw [← hd] at hhi hle
        have HC := Lib.hid (nforeign_any d (by omega) (w.iter s (pos + d2)))
        rw [show isLocR d = false from by unfold isLocR; rw [decide_eq_false_iff_not]; omega] at HC
        have hF : Fr (fun _ => False) w (w.iter s (pos + d2)) := (Fr.refl _ w).alloc _
        have HF := Lib.hid (And.intro hF hall)
        clear hts hbad h128 hd hd2 HA hF hall hhi hle
        go_wp2_with fail
        refine HC.out.mono ?_
        rintro e w1 ⟨rfl, rfl⟩
        go_wp2_with fail
        go_ret
        exact ⟨_, rfl, by rw [HF.out.2]; simp, by omega, by omega, HF.out.1⟩
    · have hnx : ∀ ty, (Instr.next (.pointer (some ⟨w.heap.size, 0, none⟩)) true ty).run Try.prog (w.iter s pos) = _ := fun ty => run_next_end w s pos ty hlt
      have hd := HA.out
      rw [List.take_of_length_le (by rw [← size_list]; omega)] at hd
      have hF : Fr (fun _ => False) w (w.iter s pos) := (Fr.refl _ w).alloc _
      have HF := Lib.hid (And.intro hF hd)
      clear hd hF HA
      go_wp2_with fail
      go_ret
      exact ⟨-1, rfl, by rw [HF.out.2]; rfl, by omega, by omega, HF.out.1⟩
theorem contains_any (s : ByteArray) (hs : s.size ≤ 1000) (w : World) : Calls Try.prog 40 #[.string s, .func (.func 41) #[] #[]] w fun e w' => e = .returned (.bool (!(s.data.toList.all isLoc))) ∧ Fr (fun _ => False) w w' := by
  have HI : Calls Try.prog 44 #[.string s, .func (.func 41) #[] #[]] w (IdxS s w) := by
    have H := Lib.hid (index_any s hs w)
    go_enter Try.func44, Try.ntmps44
    go_wp2_with fail
    refine H.out.mono ?_
    rintro e w1 ⟨n, rfl, h1, h2, h3, h4⟩
    have HH := Lib.hid (And.intro h1 h4)
    clear h1 h4
    go_wp2_with fail
    go_ret
    exact ⟨n, rfl, HH.out.1, h2, h3, HH.out.2⟩
  have H := Lib.hid HI
  obtain ⟨b, hb⟩ : ∃ b, b = !(s.data.toList.all isLoc) := ⟨_, rfl⟩
  rw [← hb]
  have HB := Lib.hid hb
  clear hb HI
  go_enter Try.func40, Try.ntmps40
  go_wp2_with fail
  refine H.out.mono ?_
  rintro e w1 ⟨n, rfl, h1, h2, h3, h4⟩
  rw [← HB.out] at h1
  have HH := Lib.hid (And.intro h1 h4)
  clear h1 h4
  go_wp2_with fail
  go_ret
  exact ⟨by rw [← HH.out.1]; rfl, HH.out.2⟩
theorem nlocator_any (s : ByteArray) (w : World) (hs : s.size ≤ 1000) : Calls Try.prog 28 #[.string s] w fun e w' => e = .returned (.bool (locB s.data.toList)) ∧ Fr (fun _ => False) w w' := by
  have H := Lib.hid (contains_any s hs w)
  obtain ⟨b, hb⟩ : ∃ b, b = s.data.toList.all isLoc := ⟨_, rfl⟩
  obtain ⟨r, hr⟩ : ∃ r, r = locB s.data.toList := ⟨_, rfl⟩
  rw [← hr]
  unfold locB at hr
  rw [← hb] at hr
  rw [← hb] at H
  by_cases h6 : s.size = 6
  · have hb6 : ((s.size : Int) == 6) = true := by rw [beq_iff_eq]; omega
    rw [decide_eq_true (by rw [← size_list]; exact h6), Bool.and_true] at hr
    have HR := Lib.hid hr
    clear hb hr h6
    go_enter Try.func28, Try.ntmps28
    go_wp2_with fail
    refine H.out.mono ?_
    rintro e w1 ⟨rfl, h1⟩
    have HH := Lib.hid h1
    clear h1
    go_wp2_with fail
    go_ret
    exact ⟨by rw [HR.out]; cases b <;> rfl, HH.out⟩
  · have hb6 : ((s.size : Int) == 6) = false := by rw [beq_eq_false_iff_ne]; omega
    rw [decide_eq_false (by rw [← size_list]; exact h6), Bool.and_false] at hr
    subst hr
    clear hb h6 H
    go_enter Try.func28, Try.ntmps28
    go_wp2_with fail
    go_ret
    exact ⟨rfl, Fr.refl _ _⟩
end Go.Proofs.Ytchofmncinbmcaa
