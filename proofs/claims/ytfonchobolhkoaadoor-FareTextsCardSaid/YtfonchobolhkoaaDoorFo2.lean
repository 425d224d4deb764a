/- The landed Of's helpers: digits, leastDigits, worth. -/
import Derived.Test.YtfonchobolhkoaaDoorFo1
import Derived.Laws.RangeString
namespace Go.Proofs.YtfonchobolhkoaaDoor
open Go.RowKit

/-- At most one above what an amount may be. -/
def satN (n : Nat) : Nat := min n 1000000000001
theorem satN_step (D d : Nat) (hd : d ≤ 9) : satN (satN D * 10 + d) = satN (D * 10 + d) := by unfold satN; omega
set_option maxRecDepth 100000 in
set_option maxHeartbeats 1000000 in
theorem worth_any (s : ByteArray) (hd : s.data.toList.all isDig = true) (w : World) : Calls Tryd.prog 36 #[.string s] w fun e w' => e = .returned (.int .i64 (satN (dval s.data.toList) : Nat)) ∧ Fr (fun _ => False) w w' := by
  obtain ⟨x, hx⟩ : ∃ x, x = satN (dval s.data.toList) := ⟨_, rfl⟩
  rw [← hx]
  have HX := Lib.hid hx
  have HD := Lib.hid hd
  clear hx hd
  go_enter Tryd.func36, Tryd.ntmps36
  go_wp2_with fail
  go_loopw [3] (fun n wr => ∃ (pos m : Nat), wr = w.iter s pos ∧ n = .int .i64 m ∧ pos ≤ s.size ∧ Hid (m = satN (dval (s.data.toList.take pos)))) (fun _ wr => s.size - wr.iterPos w.heap.size)
  case atStart => exact ⟨0, 0, rfl, rfl, by omega, Lib.hid rfl⟩
  case round =>
    obtain ⟨pos, m, rfl, rfl, hpos, HM⟩ := hrel
    by_cases hlt : pos < s.size
    · have hts := take_snoc s pos hlt
      have hdg : isDig s[pos] = true := List.all_eq_true.1 HD.out _ (List.mem_of_getElem? (get_lst s pos hlt))
      have hdig : 48 ≤ s[pos].toNat ∧ s[pos].toNat ≤ 57 := of_decide_eq_true hdg
      have hm2 : dval (s.data.toList.take (pos + 1)) = dval (s.data.toList.take pos) * 10 + (s[pos].toNat - 48) := by rw [hts, dval_snoc]
      have hnx : ∀ ty, (Instr.next (.pointer (some ⟨w.heap.size, 0, none⟩)) true ty).run Tryd.prog (w.iter s pos) = _ := fun ty => run_next_ascii w s pos ty hlt (by omega)
      obtain ⟨d, hd⟩ : ∃ d, d = s[pos].toNat := ⟨_, rfl⟩
      rw [← hd] at hnx hm2 hdig
      obtain ⟨e, he⟩ : ∃ e, e = d - 48 := ⟨_, rfl⟩
      have hde : (d : Int) - 48 = (e : Int) := by omega
      have he9 : e ≤ 9 := by omega
      rw [← he] at hm2
      have hm3 : satN (m * 10 + e) = satN (dval (s.data.toList.take (pos + 1))) := by rw [hm2, HM.out, satN_step _ _ he9]
      have hmb : m ≤ 1000000000001 := by rw [HM.out]; unfold satN; omega
      have hmn : min ((m : Int) * 10 + (e : Int)) 1000000000001 = ((satN (m * 10 + e) : Nat) : Int) := by unfold satN; omega
      have HR := Lib.hid (And.intro hm3 hmn)
      obtain ⟨hd1, hd2⟩ : (48 : Int) ≤ (d : Int) ∧ (d : Int) ≤ 57 := by omega
      have hmi : (m : Int) ≤ 1000000000001 := by omega
      have hp1 : pos + 1 ≤ s.size := hlt
      clear hts hdg hdig hm2 hd he hm3 hmb hmn HM
      go_wp2_with fail
      refine ⟨⟨pos + 1, satN (m * 10 + e), rfl, by rw [HR.out.2], hp1, Lib.hid HR.out.1⟩, ?_⟩
      simp
      omega
    · obtain rfl : pos = s.size := by omega
      have hnx : ∀ ty, (Instr.next (.pointer (some ⟨w.heap.size, 0, none⟩)) true ty).run Tryd.prog (w.iter s s.size) = _ := fun ty => run_next_end w s s.size ty hlt
      have hm := HM.out
      rw [List.take_of_length_le (by rw [← size_list]; exact Nat.le_refl _), ← HX.out] at hm
      subst hm
      have hF : Fr (fun _ => False) w (w.iter s s.size) := (Fr.refl _ w).alloc _
      have HF := Lib.hid hF
      clear hF hlt HM
      go_wp2_with fail
      go_ret
      exact ⟨rfl, HF.out⟩
set_option maxRecDepth 100000 in
set_option maxHeartbeats 1000000 in
theorem digits_any (s : ByteArray) (hs : s.size ≤ 100000) (w : World) : Calls Tryd.prog 35 #[.string s] w fun e w' => e = .returned (.bool (s.data.toList.all isDig)) ∧ Fr (fun _ => False) w w' := by
  have hcon := Any.strings_Trim_laid Tryd.layTrm (by kernel_rfl) s ⟨#[48, 49, 50, 51, 52, 53, 54, 55, 56, 57]⟩ w (by omega) (by decide) (ascii_of_all (by decide))
  obtain ⟨r, hr⟩ : ∃ r : ByteArray, r = ⟨(Lib.trimS s.data.toList [48, 49, 50, 51, 52, 53, 54, 55, 56, 57]).toArray⟩ := ⟨_, rfl⟩
  change Calls Tryd.prog 46 _ _ (fun e w' => e = .returned (.string ⟨(Lib.trimS s.data.toList [48, 49, 50, 51, 52, 53, 54, 55, 56, 57]).toArray⟩) ∧ Below w.heap.size w w') at hcon
  rw [← hr] at hcon
  have hb : r.toList.isEmpty = s.data.toList.all isDig := by
    rw [ByteArray.toList_eq, Bool.eq_iff_iff, List.isEmpty_iff, ← trim_digs, hr]
  have HB := Lib.hid hb
  have HC := Lib.hid hcon
  clear hcon hb hr hs
  go_enter Tryd.func35, Tryd.ntmps35
  go_wp2_with fail
  refine HC.out.mono ?_
  rintro e w1 ⟨rfl, h1⟩
  have HF : Hid (Fr (fun _ => False) w w1) := Lib.hid (Fr.of_below h1)
  clear h1
  go_wp2_with fail
  go_ret
  exact ⟨by rw [← HB.out]; rfl, HF.out⟩
set_option maxRecDepth 100000 in
set_option maxHeartbeats 1000000 in
theorem least_any (s : ByteArray) (hs : s.size ≤ 100000) (w : World) : Calls Tryd.prog 34 #[.string s] w fun e w' => e = .returned (.bool (leastB s.data.toList)) ∧ Fr (fun _ => False) w w' := by
  have HC := Lib.hid (digits_any s hs w)
  obtain ⟨x, hx⟩ : ∃ x, x = leastB s.data.toList := ⟨_, rfl⟩
  rw [← hx]
  cases hd : s.data.toList.all isDig with
  | false =>
    have e : x = false := by rw [hx]; unfold leastB; rw [hd]; rfl
    subst e
    rw [hd] at HC
    clear hx hd hs
    go_enter Tryd.func34, Tryd.ntmps34
    go_wp2_with fail
    refine HC.out.mono ?_
    rintro e w1 ⟨rfl, h1⟩
    have HF := Lib.hid h1
    clear h1
    go_wp2_with fail
    go_ret
    exact ⟨rfl, HF.out⟩
  | true =>
    rw [hd] at HC
    by_cases h0 : s.size = 0
    · have hn : s.data.toList = [] := List.length_eq_zero_iff.1 (by rw [← size_list]; exact h0)
      have e : x = false := by rw [hx, hn]; rfl
      subst e
      have he : s.toList.isEmpty = true := by rw [ByteArray.toList_eq, hn]; rfl
      clear hx hd hs hn h0
      go_enter Tryd.func34, Tryd.ntmps34
      go_wp2_with fail
      refine HC.out.mono ?_
      rintro e w1 ⟨rfl, h1⟩
      have HF := Lib.hid h1
      clear h1
      go_wp2_with fail
      go_ret
      exact ⟨rfl, HF.out⟩
    · have hn : s.data.toList ≠ [] := fun q => h0 (by rw [size_list, q]; rfl)
      have he : s.toList.isEmpty = false := by rw [ByteArray.toList_eq, List.isEmpty_eq_false_iff]; exact hn
      have hg := get_lst s 0 (by omega)
      have hhd : s.data.toList.head? = some s[0] := by rw [← hg]; exact List.head?_eq_getElem?
      have hx2 : x = (s.toList == [48] || ((s[0].toNat : Int) != 48)) := by
        rw [hx]
        unfold leastB
        rw [hd, hhd, ByteArray.toList_eq]
        have e1 : decide (s.data.toList ≠ []) = true := decide_eq_true hn
        have e2 : decide (s.data.toList = [48]) = (s.data.toList == [48]) := by rw [Bool.eq_iff_iff, decide_eq_true_eq, beq_iff_eq]
        have e3 : decide (some s[0] ≠ some (48 : UInt8)) = ((s[0].toNat : Int) != 48) := by
          rw [Bool.eq_iff_iff, decide_eq_true_eq, bne_iff_ne]
          have h48 : (s[0] = 48) ↔ s[0].toNat = 48 := UInt8.toNat_inj.symm
          constructor
          · intro h q
            exact h (by rw [h48.2 (by omega)])
          · intro h q
            injection q with q
            exact h (by rw [q]; rfl)
        rw [e1, e2, e3]
        rfl
      have hp : 0 < s.size := by omega
      have HX := Lib.hid hx2
      by_cases h48 : s.toList = [48]
      · have HH := Lib.hid h48
        have hb48 : (s.toList == [48]) = true := by rw [beq_iff_eq]; exact h48
        clear hx hd hn hg hhd hx2
        go_enter Tryd.func34, Tryd.ntmps34
        go_wp2_with fail
        refine HC.out.mono ?_
        rintro e w1 ⟨rfl, h1⟩
        have HF := Lib.hid h1
        clear h1
        go_wp2_with fail
        go_ret
        exact ⟨by rw [HX.out, HH.out]; rfl, HF.out⟩
      · clear hx hd hn hg hhd hx2
        go_enter Tryd.func34, Tryd.ntmps34
        go_wp2_with fail
        refine HC.out.mono ?_
        rintro e w1 ⟨rfl, h1⟩
        have HF := Lib.hid h1
        clear h1
        go_wp2_with fail
        go_ret
        exact ⟨by rw [HX.out]; rfl, HF.out⟩
end Go.Proofs.YtfonchobolhkoaaDoor
