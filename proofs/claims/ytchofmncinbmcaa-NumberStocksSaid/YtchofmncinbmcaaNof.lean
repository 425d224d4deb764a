/- number.Of: a text's number. -/
import Derived.Test.YtchofmncinbmcaaNtx
namespace Go.Proofs.Ytchofmncinbmcaa
open Go.RowKit

theorem of_chk {l : List UInt8} (hl : l.length = 13) (hd : l.all isDig = true) : ofE l = chkE (dval l) := by
  have hc := dval_cut l 12 hd
  rw [hl] at hc
  have hlt := dval_lt l hd
  rw [hl] at hlt
  have e13 : (10 : Nat) ^ 13 = 10000000000000 := rfl
  have e12 : (10 : Nat) ^ 12 = 1000000000000 := rfl
  unfold ofE chkE
  rw [if_neg (by simp [hl, hd]), hc.1, hc.2]
  have hh : l.head? = some 48 ↔ dval l < 1000000000000 := by
    match l, hl, hd with
    | a :: q, hl, hd =>
      have hq : q.length = 12 := by simpa using hl
      simp only [List.all_cons, Bool.and_eq_true] at hd
      constructor
      · intro e
        have ea : a = 48 := by simpa using e
        subst ea
        have h1 := dval_app [48] q
        have h2 := dval_lt q hd.2
        rw [hq] at h2
        have h3 : dval [48] = 0 := by decide
        rw [h3] at h1
        simp only [List.singleton_append, Nat.zero_mul, Nat.zero_add] at h1
        rw [h1]
        omega
      · intro e
        apply Decidable.byContradiction
        intro hne
        have ha : a ≠ 48 := fun q => hne (by rw [q]; rfl)
        have := dval_ge a q (by simp [hd]) ha
        rw [hq] at this
        omega
  by_cases h : dval l < 1000000000000
  · rw [if_pos (hh.2 h), if_pos (.inl h)]
  · rw [if_neg (fun q => h (hh.1 q)), if_neg (show ¬ (dval l < 1000000000000 ∨ 9999999999999 < dval l) by omega)]
theorem of_num {l : List UInt8} (hl : l.length = 13) (hd : l.all isDig = true) : ofN l = if chkE (dval l) = 0 then dval l else 0 := by
  unfold ofN
  rw [of_chk hl hd]
set_option maxRecDepth 100000 in
set_option maxHeartbeats 1000000 in
theorem nof_any (s : ByteArray) (w : World) : Calls Try.prog 17 #[.string s] w fun e w' => e = .returned (.tuple #[.int .u64 (ofN s.data.toList : Nat), .int .i64 (ofE s.data.toList : Nat)]) ∧ Fr (fun _ => False) w w' := by
  obtain ⟨x, hx⟩ : ∃ x, x = ofN s.data.toList := ⟨_, rfl⟩
  obtain ⟨y, hy⟩ : ∃ y, y = ofE s.data.toList := ⟨_, rfl⟩
  rw [← hx, ← hy]
  have HX := Lib.hid (And.intro hx hy)
  clear hx hy
  by_cases h13 : s.size = 13
  · have hb13 : ((s.size : Int) != 13) = false := by rw [bne_eq_false_iff_eq]; omega
    have H13 := Lib.hid h13
    clear h13
    go_enter Try.func17, Try.ntmps17
    go_wp2_with fail
    go_loopw [4] (fun n wr => ∃ (pos m : Nat), wr = w.iter s pos ∧ n = .int .u64 m ∧ pos ≤ s.size ∧ Hid ((s.data.toList.take pos).all isDig = true) ∧ Hid (m = dval (s.data.toList.take pos))) (fun _ wr => s.size - wr.iterPos w.heap.size)
    case atStart => exact ⟨0, 0, rfl, rfl, by omega, Lib.hid rfl, Lib.hid rfl⟩
    case round =>
      obtain ⟨pos, m, rfl, rfl, hpos, HA, HM⟩ := hrel
      by_cases hlt : pos < s.size
      · have hts := take_snoc s pos hlt
        have hp13 : pos < 13 := by have := H13.out; omega
        have hbad : isDig s[pos] = false → y = 4 ∧ x = 0 := by
          intro hdig
          have hd : s.data.toList.all isDig = false := by
            rw [List.all_eq_false]
            exact ⟨s[pos], List.mem_of_getElem? (get_lst s pos hlt), by rw [hdig]; simp⟩
          have e : ofE s.data.toList = 4 := by unfold ofE; rw [if_pos (.inr hd)]
          refine ⟨by rw [HX.out.2, e], ?_⟩
          rw [HX.out.1]
          unfold ofN
          rw [e]
          rfl
        by_cases h128 : s[pos].toNat < 128
        · by_cases hdig : 48 ≤ s[pos].toNat ∧ s[pos].toNat ≤ 57
          · have hall : (s.data.toList.take (pos + 1)).all isDig = true := by
              rw [hts, List.all_append, HA.out]
              simp [isDig, hdig.1, hdig.2]
            have hm2 : dval (s.data.toList.take (pos + 1)) = m * 10 + (s[pos].toNat - 48) := by rw [hts, dval_snoc, HM.out]
            have hlt2 := dval_lt _ hall
            rw [List.length_take, Array.length_toList] at hlt2
            have hpw : 10 ^ min (pos + 1) s.data.size ≤ 10 ^ 13 := Nat.pow_le_pow_right (by omega) (by omega)
            have e13 : (10 : Nat) ^ 13 = 10000000000000 := rfl
            have hnx : ∀ ty, (Instr.next (.pointer (some ⟨w.heap.size, 0, none⟩)) true ty).run Try.prog (w.iter s pos) = _ := fun ty => run_next_ascii w s pos ty hlt h128
            obtain ⟨d, hd⟩ : ∃ d, d = s[pos].toNat := ⟨_, rfl⟩
            rw [← hd] at hnx hm2 hdig
            have hmlt : (m : Int) < 1000000000000 := by omega
            obtain ⟨hd1, hd2⟩ : (48 : Int) ≤ (d : Int) ∧ (d : Int) ≤ 57 := by omega
            have hR := Lib.hid (And.intro hall hm2)
            clear hts hbad h128 hdig hall hm2 hlt2 hpw e13 hd HA HM
            have hw1 : IntKind.u64.wrap ((m : Int) * 10) = (m : Int) * 10 := by rw [wrapU]; omega
            have hw2 : IntKind.u64.wrap ((d : Int) - 48) = (d : Int) - 48 := by rw [wrapU]; omega
            have hw3 : IntKind.u64.wrap ((m : Int) * 10 + ((d : Int) - 48)) = (m : Int) * 10 + ((d : Int) - 48) := by rw [wrapU]; omega
            have hp1 : pos + 1 ≤ s.size := hlt
            clear hmlt hp13
            go_wp2
            go_roundw
            case rel => exact ⟨pos + 1, m * 10 + (d - 48), rfl, by congr 1; omega, hp1, Lib.hid hR.out.1, Lib.hid hR.out.2.symm⟩
            case measure =>
              simp
              omega
          · obtain ⟨rfl, rfl⟩ := hbad (by unfold isDig; rw [decide_eq_false_iff_not]; exact hdig)
            have hnx : ∀ ty, (Instr.next (.pointer (some ⟨w.heap.size, 0, none⟩)) true ty).run Try.prog (w.iter s pos) = _ := fun ty => run_next_ascii w s pos ty hlt h128
            obtain ⟨d, hd⟩ : ∃ d, d = s[pos].toNat := ⟨_, rfl⟩
            rw [← hd] at hnx hdig
            have hF : Fr (fun _ => False) w (w.iter s (pos + 1)) := (Fr.refl _ w).alloc _
            have HF := Lib.hid hF
            clear hF hts hd h128
            by_cases hlo : d < 48
            · have hd3 : (d : Int) < 48 := by omega
              clear hdig hlo
              go_wp2
              go_ret2
              exact ⟨rfl, HF.out⟩
            · have hd3 : ¬ (d : Int) < 48 := by omega
              have hd4 : (57 : Int) < (d : Int) := by omega
              clear hdig hlo
              go_wp2
              go_ret2
              exact ⟨rfl, HF.out⟩
        · obtain ⟨rfl, rfl⟩ := hbad (by unfold isDig; rw [decide_eq_false_iff_not]; omega)
          have hnx : ∀ ty, (Instr.next (.pointer (some ⟨w.heap.size, 0, none⟩)) true ty).run Try.prog (w.iter s pos) = _ := fun ty => run_next_any w s pos ty hlt
          have hhi := decode_high s pos hlt (by omega)
          have hle := decode_le s pos
          obtain ⟨d, hd⟩ : ∃ d, d = (Utf8.decode s pos).1 := ⟨_, rfl⟩
          obtain ⟨d2, hd2⟩ : ∃ d, d = (Utf8.decode s pos).2 := ⟨_, rfl⟩
          rw [← hd, ← hd2] at hnx
          rw [← hd] at hhi hle
          have hF : Fr (fun _ => False) w (w.iter s (pos + d2)) := (Fr.refl _ w).alloc _
          have HF := Lib.hid hF
          have hd3 : ¬ (d : Int) < 48 := by omega
          have hd4 : (57 : Int) < (d : Int) := by omega
          clear hF hts hd hd2 h128 hhi
          go_wp2
          go_ret2
          exact ⟨rfl, HF.out⟩
      · obtain rfl : pos = 13 := by have := H13.out; omega
        have hnx : ∀ ty, (Instr.next (.pointer (some ⟨w.heap.size, 0, none⟩)) true ty).run Try.prog (w.iter s 13) = _ := fun ty => run_next_end w s 13 ty hlt
        have hd := HA.out
        have hm := HM.out
        have htl : s.data.toList.take 13 = s.data.toList := List.take_of_length_le (by rw [← size_list, H13.out]; omega)
        rw [htl] at hd hm
        have hl : s.data.toList.length = 13 := by rw [← size_list]; exact H13.out
        have hmlt := dval_lt _ hd
        rw [hl] at hmlt
        have e13 : (10 : Nat) ^ 13 = 10000000000000 := rfl
        have hE := of_chk hl hd
        have hN := of_num hl hd
        rw [← HX.out.2, ← hm] at hE
        rw [← HX.out.1, ← hm, ← hE] at hN
        have HC := Lib.hid (ncheck_any m (by omega) (w.iter s 13))
        rw [← hE] at HC
        have hF : Fr (fun _ => False) w (w.iter s 13) := (Fr.refl _ w).alloc _
        have HF := Lib.hid hF
        by_cases h0 : y = 0
        · subst h0
          rw [if_pos rfl] at hN
          subst hN
          clear hd hm htl hl hmlt e13 hE hF hlt HA HM
          go_wp2_with fail
          refine HC.out.mono ?_
          rintro e w1 ⟨rfl, rfl⟩
          go_wp2_with fail
          go_ret2
          exact ⟨rfl, HF.out⟩
        · rw [if_neg h0] at hN
          subst hN
          have hb : ((y : Int) != 0) = true := by rw [bne_iff_ne]; omega
          clear hd hm htl hl hmlt e13 hE hF hlt HA HM h0
          go_wp2_with fail
          refine HC.out.mono ?_
          rintro e w1 ⟨rfl, rfl⟩
          go_wp2_with fail
          go_ret2
          exact ⟨rfl, HF.out⟩
  · have e : ofE s.data.toList = 4 := by unfold ofE; rw [if_pos (.inl (by rw [← size_list]; exact h13))]
    obtain rfl : y = 4 := by rw [HX.out.2, e]
    obtain rfl : x = 0 := by rw [HX.out.1]; unfold ofN; rw [e]; rfl
    have hb13 : ((s.size : Int) != 13) = true := by rw [bne_iff_ne]; omega
    clear e h13
    go_enter Try.func17, Try.ntmps17
    go_wp2_with fail
    go_ret2
    exact ⟨rfl, Fr.refl _ _⟩
end Go.Proofs.Ytchofmncinbmcaa
