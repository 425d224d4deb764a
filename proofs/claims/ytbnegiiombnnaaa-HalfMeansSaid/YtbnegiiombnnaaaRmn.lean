/- couponref02: Many, Need, Put. -/
import Derived.Test.YtbnegiiombnnaaaHkn
import Derived.Test.YtbnegiiombnnaaaPie
namespace Go.Proofs.Ytbnegiiombnnaaa
open Go.RowKit

theorem rmany_any (w : World) (n : Nat) (hn : n ≤ 1000000) : Calls Try.prog 26 #[.int .i64 n] w fun e w' => e = .returned (.int .i64 (many n : Nat)) ∧ w = w' := by
  have hm : 48 * many n < n + 52 ∧ n + 4 ≤ 48 * many n := by unfold many; omega
  have hp := many_pos n
  generalize many n = m at *
  have HM := Lib.hid hm
  clear hm
  go_enter Try.func26, Try.ntmps26
  go_wp2_with fail
  go_loop [3] (fun i => ∃ k : Nat, i = .int .i64 k ∧ 1 ≤ k ∧ k ≤ m) (fun i => m - (intOf i).toNat)
  case atStart => exact ⟨1, rfl, Nat.le_refl _, hp⟩
  case round =>
    obtain ⟨k, rfl, hk1, hk⟩ := hrel
    have hk9 : k ≤ 1000000 := by have := HM.out; omega
    by_cases hlt : k < m
    · have ht : (48 : Int) * (k : Int) < 4 + (n : Int) := by have := HM.out; omega
      have HL := Lib.hid hlt
      clear hlt hk
      go_wp2_with fail
      exact ⟨⟨k + 1, by go_num, by omega, HL.out⟩, by have := HL.out; simp [intOf]; omega⟩
    · obtain rfl : k = m := by omega
      have ht : ¬ (48 : Int) * (k : Int) < 4 + (n : Int) := by have := HM.out; omega
      clear hlt hk
      go_wp2_with fail
      go_ret
      exact ⟨rfl, rfl⟩
theorem rneed_any (w : World) (n : Int) : Calls Try.prog 11 #[.int .i64 n] w fun e w' => e = .returned (.int .i64 (needN n : Nat)) ∧ w = w' := by
  by_cases h0 : n < 0
  · have : needN n = 0 := by simp [needN, h0]
    rw [this]
    go_enter Try.func11, Try.ntmps11
    go_wp2_with fail
    go_ret
    exact ⟨rfl, rfl⟩
  by_cases h1 : 32768 < n
  · have : needN n = 0 := by simp [needN, h1]
    rw [this]
    go_enter Try.func11, Try.ntmps11
    go_wp2_with fail
    go_ret
    exact ⟨rfl, rfl⟩
  obtain ⟨k, rfl⟩ := Int.eq_ofNat_of_zero_le (Int.not_lt.1 h0)
  have hn : needN (k : Int) = (many k + 1) / 2 := by simp [needN]; omega
  rw [hn]
  have hm : many k ≤ 1000 := by unfold many; omega
  have HM := Lib.hid (rmany_any w k (by omega))
  generalize many k = m at *
  go_enter Try.func11, Try.ntmps11
  go_wp2_with fail
  (with_reducible refine HM.out.mono ?_)
  rintro e w1 ⟨rfl, rfl⟩
  go_wp2_with fail
  (with_reducible refine HM.out.mono ?_)
  rintro e w1 ⟨rfl, rfl⟩
  go_wp2_with fail
  go_ret
  exact ⟨congrArg (fun z => Ending.returned (Value.int .i64 z)) (by omega : (m : Int) / 2 + (m : Int) % 2 = (((m + 1) / 2 : Nat) : Int)), rfl⟩

/-- The last bytes of a number, one by one. -/
theorem be_back (n s i : Nat) (h : i < s) : (be n s).drop i = UInt8.ofNat (n / 256 ^ (s - 1 - i) % 256) :: (be n s).drop (i + 1) := by
  rw [List.drop_eq_getElem_cons (by rw [be_len]; exact h)]
  congr 1
  simp [be]

/-- Put's bytes: a block of its own. -/
def PutR (w : World) (n s : Nat) (e : Ending) (w' : World) : Prop :=
  ∃ R, e = .returned (.slice (some ⟨R, 0, none⟩) s s) ∧ w.heap.size ≤ R ∧ Blk w' R 5 (cellsB (be n s)).toArray ∧ Fr (fun _ => False) w w'
theorem patch_tail {l m : List UInt8} {i : Nat} (hm : m.length + i + 1 = l.length) (q : UInt8) : (patch l (i + 1) m).set i q = patch l i (q :: m) := by
  unfold patch
  have h1 : (l.take (i + 1)).length = i + 1 := by rw [List.length_take]; omega
  rw [List.set_append_left _ _ (by omega)]
  have e1 : (l.take (i + 1)).set i q = l.take i ++ [q] := by
    rw [List.take_succ_eq_append_getElem (by omega)]
    have h4 : (l.take i).length = i := by rw [List.length_take]; omega
    rw [List.set_append_right _ _ (by omega), h4, Nat.sub_self]
    rfl
  rw [e1, List.length_cons]
  have e2 : i + (m.length + 1) = i + 1 + m.length := by omega
  rw [e2]
  simp
set_option maxRecDepth 100000 in
theorem rput_any (w : World) (n s : Nat) (hn : n ≤ 18446744073709551615) (hs : s ≤ 8) : Calls Try.prog 34 #[.int .u64 n, .int .i64 s] w (PutR w n s) := by
  have hmk := make_bytes w s (by omega)
  have HB := Lib.hid (Blk.new w 5 (cellsB (nought s)).toArray)
  have HF : Hid (Fr (fun _ => False) w (w.alloc (.cells (cellsB (nought s)).toArray 5))) := Lib.hid ((Fr.refl _ w).alloc _)
  have HN := Lib.hid hn
  clear hn
  go_enter Try.func34, Try.ntmps34
  go_wp2_with fail
  clear hmk
  go_loopw [0, 6] (fun x i wr => ∃ (k : Nat) (q : Int), i = .int .i64 q ∧ q + 1 = k ∧ k ≤ s ∧ x = .int .u64 ((n / 256 ^ (s - k) : Nat) : Int) ∧ Hid (Blk wr w.heap.size 5 (cellsB (patch (nought s) k ((be n s).drop k))).toArray) ∧ Hid (Fr (fun _ => False) w wr)) (fun _ i _ => (intOf i + 1).toNat)
  case atStart => exact ⟨s, _, rfl, by omega, Nat.le_refl _, by simp, Lib.hid (by
    have h1 : (be n s).drop s = [] := List.drop_eq_nil_of_le (by rw [be_len]; exact Nat.le_refl _)
    rw [h1]
    have h2 : patch (nought s) s [] = nought s := by simp [patch]
    rw [h2]
    exact HB.out), HF⟩
  case round =>
    obtain ⟨k, q, rfl, hq, hk, rfl, HBk, HFk⟩ := hrel
    by_cases h0 : 0 ≤ q
    · obtain ⟨i, rfl⟩ := Int.eq_ofNat_of_zero_le h0
      obtain rfl : k = i + 1 := by omega
      have his : i < s := by omega
      obtain ⟨x, hx⟩ : ∃ x, x = n / 256 ^ (s - (i + 1)) := ⟨_, rfl⟩
      have hxn : x ≤ 18446744073709551615 := by rw [hx]; exact Nat.le_trans (Nat.div_le_self _ _) HN.out
      have hbk := be_back n s i his
      have e1 : s - 1 - i = s - (i + 1) := by omega
      rw [e1, ← hx] at hbk
      have hnx : n / 256 ^ (s - i) = x / 256 := by
        have e2 : s - i = s - (i + 1) + 1 := by omega
        rw [e2, Nat.pow_succ, ← Nat.div_div_eq_div_mul, hx]
      rw [← hx]
      have hi0 : (0 : Int) ≤ (i : Int) := by omega
      have hi1 : (i : Int) < (s : Int) := by omega
      have hcv : ((UInt8.ofNat (x % 256)).toNat : Int) = (x : Int) % 256 := by rw [UInt8.toNat_ofNat']; omega
      have c0 := HBk.out.cell i
      have f0 := HBk.out.frozen i
      have hpl : (patch (nought s) (i + 1) ((be n s).drop (i + 1))).length = s := by
        rw [patch_len] <;> simp [be_len, nought_len] <;> omega
      have hdl : ((be n s).drop (i + 1)).length + i + 1 = s := by rw [List.length_drop, be_len]; omega
      have hst := HBk.out.set_ i (.int .u8 ((UInt8.ofNat (x % 256)).toNat : Int))
      have hpt := patch_tail (l := nought s) (m := (be n s).drop (i + 1)) (i := i) (by rw [nought_len]; exact hdl) (UInt8.ofNat (x % 256))
      rw [← hbk] at hpt
      have hst2 : Blk (wr.setCell ⟨w.heap.size, i, none⟩ (.int .u8 ((UInt8.ofNat (x % 256)).toNat : Int))) w.heap.size 5 (cellsB (patch (nought s) i ((be n s).drop i))).toArray := by
        rw [← hpt]
        simpa [cellsB, List.map_set] using hst
      rw [hcv] at hst2
      have hfs : Fr (fun _ => False) w (wr.setCell ⟨w.heap.size, i, none⟩ (.int .u8 ((x : Int) % 256))) := HFk.out.setCell (.inr (Nat.le_refl _)) _
      have hci : ∃ v, wr.cell? ⟨w.heap.size, i, none⟩ = some v := by
        rw [c0]
        exact ⟨_, Array.getElem?_eq_getElem (by simp [cellsB_len, hpl]; omega)⟩
      obtain ⟨v0, hv0⟩ := hci
      have HS := Lib.hid (And.intro hst2 (And.intro hfs hnx))
      clear hst2 hfs hnx hst hpt hpl hdl c0 hbk e1 hx hcv hq hk
      go_wp2_with fail
      refine ⟨⟨i, (i : Int) - 1, by go_num, by omega, by omega, ?_, Lib.hid HS.out.1, Lib.hid HS.out.2.1⟩, by simp [intOf]⟩
      rw [HS.out.2.2]
      exact congrArg (Value.int .u64) (by omega)
    · obtain rfl : k = 0 := by omega
      obtain rfl : q = -1 := by omega
      have hb := HBk.out
      rw [List.drop_zero, patch_all (by rw [nought_len, be_len])] at hb
      have HB2 := Lib.hid hb
      clear hb h0 hq hk
      go_wp2_with fail
      go_ret
      exact ⟨w.heap.size, rfl, Nat.le_refl _, HB2.out, HFk.out⟩
end Go.Proofs.Ytbnegiiombnnaaa
