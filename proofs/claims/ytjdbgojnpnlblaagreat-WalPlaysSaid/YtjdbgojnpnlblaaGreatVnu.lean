/- wal: appendNumber, numberOf, taker. -/
import Derived.Test.YtjdbgojnpnlblaaGreatW8
namespace Go.Proofs.YtjdbgojnpnlblaaGreat
open Go.RowKit

set_option maxRecDepth 100000 in
set_option maxHeartbeats 1000000 in
theorem appnum_any {w : World} {base : Nat} {v : Value} {xs : List UInt8} (ho : w.ownsRow base 5 1 v xs.length (cellsB xs)) (hbase : base ≤ w.heap.size) (x s : Nat) (hx : x ≤ 18446744073709551615) (hs : s ≤ 8) (hb : xs.length ≤ 1000000000) :
    Calls Tryz.prog 76 #[v, .int .u64 x, .int .i64 s] w fun e w' => ∃ v', e = .returned v' ∧ w'.ownsRow base 5 1 v' (xs ++ be x s).length (cellsB (xs ++ be x s)) ∧ Fr (fun b => v.ownBlock = some b) w w' ∧ (v'.ownBlock = v.ownBlock ∨ ∀ b, v'.ownBlock = some b → w.heap.size ≤ b) := by
  have HO0 := Lib.hid ho
  have HB := Lib.hid (And.intro hx (And.intro hb hbase))
  clear ho hx hb hbase
  go_enter Tryz.func76, Tryz.ntmps76
  go_wp2_with fail
  go_loopw [0, 9] (fun t i wr => ∃ (k : Nat) (u : Value), u = t ∧ i = .int .i64 k ∧ k ≤ s ∧ Hid (wr.ownsRow base 5 1 u (xs ++ (be x s).take k).length (cellsB (xs ++ (be x s).take k))) ∧ Hid (Fr (fun b => v.ownBlock = some b) w wr) ∧ Hid (u.ownBlock = v.ownBlock ∨ ∀ b, u.ownBlock = some b → w.heap.size ≤ b)) (fun _ i _ => s - (intOf i).toNat)
  case atStart => exact ⟨0, _, rfl, rfl, Nat.zero_le _, by simpa using HO0, Lib.hid (Fr.refl _ _), Lib.hid (.inl rfl)⟩
  case round =>
    obtain ⟨k, u, rfl, rfl, hk, HO, HF, HV⟩ := hrel
    by_cases hlt : k < s
    · obtain ⟨j, hj⟩ : ∃ j, j = s - 1 - k := ⟨_, rfl⟩
      have e1 : ((s : Int) - 1 - (k : Int)) = (j : Int) := by omega
      have hcv := shr_byte x j
      have hrd := one_byte wr 5 (UInt8.ofNat (x / 256 ^ j % 256))
      rw [← hcv] at hrd
      have HR := Lib.hid hrd
      have HON := Lib.hid (World.ownsRow.alloc HO.out (.cells #[.int .u8 ((x : Int) / 2 ^ (8 * j) % 256)] 5))
      have hln : (xs ++ (be x s).take k).length + 1 ≤ 140737488355328 := by
        have h1 := HB.out.2.1
        rw [List.length_append, List.length_take, be_len]; omega
      have HLN := Lib.hid hln
      have HBS : Hid (base ≤ (wr.alloc (.cells #[.int .u8 ((x : Int) / 2 ^ (8 * j) % 256)] 5)).heap.size) := Lib.hid (by have h1 := HF.out.size; have h2 := HB.out.2.2; simp; omega)
      have hbe := be_at x s k hlt
      rw [← hj] at hbe
      have HBE := Lib.hid hbe
      have HJ := Lib.hid hj
      have hj7 : j ≤ 7 := by omega
      clear hcv hrd hln hbe hj
      go_wp2_with (refine wpList_more rfl _ _ rfl base u (xs ++ (be x s).take k) [UInt8.ofNat (x / 256 ^ j % 256)] rfl HON.out _ 1 1 rfl HR.out HLN.out HBS.out ?_; intro v3 w3 ho3 hg3 hat3; have H4 := Lib.hid (And.intro ho3 (And.intro hg3 hat3)); clear ho3 hg3 hat3)
      have ho := H4.out.1
      rw [List.append_assoc, ← HBE.out] at ho
      refine ⟨⟨k + 1, v3, rfl, by go_num, hlt, Lib.hid ho, Lib.hid ?_, Lib.hid ?_⟩, by simp [intOf]; omega⟩
      · refine (HF.out.alloc _).grown H4.out.2.1 (fun b hb => ?_)
        rcases HV.out with q | q
        · exact .inl (q ▸ hb)
        · exact .inr (q b hb)
      · rcases H4.out.2.2 with q | q
        · rcases HV.out with r | r
          · exact .inl (q.trans r)
          · exact .inr (fun b hb => r b (q ▸ hb))
        · refine .inr (fun b hb => ?_)
          rw [q] at hb
          injection hb with hb
          have := HF.out.size
          simp at hb
          omega
    · obtain rfl : k = s := by omega
      have ht : (be x k).take k = be x k := by rw [List.take_of_length_le]; rw [be_len]; exact Nat.le_refl _
      rw [ht] at HO
      clear ht hlt hk
      go_wp2_with fail
      go_ret
      exact ⟨_, rfl, HO.out, HF.out, HV.out⟩
set_option maxRecDepth 100000 in
theorem numberOf_any {w : World} {A : Option Addr} {n c : Nat} {l : List UInt8} (hr : Rd w A n l) (hn : n ≤ 8) :
    Calls Tryz.prog 71 #[.slice A n c] w fun e w' => e = .returned (.int .u64 (numOf l : Nat)) ∧ w = w' := by
  have hl := hr.len
  have HR := Lib.hid hr
  clear hr
  go_enter Tryz.func71, Tryz.ntmps71
  go_wp2_with fail
  go_loopw [3, 8] (fun m i wr => ∃ k : Nat, i = .int .i64 k ∧ k ≤ n ∧ m = .int .u64 (numOf (l.take k) : Nat) ∧ wr = w) (fun _ i _ => n - (intOf i).toNat)
  case atStart => exact ⟨0, rfl, Nat.zero_le _, rfl, rfl⟩
  case round =>
    obtain ⟨k, rfl, hk, rfl, rfl⟩ := hrel
    by_cases hlt : k < n
    · obtain ⟨ad, x, hA1, hx, hcell⟩ := HR.out.at_ (k := k) hlt
      subst hA1
      have hi0 : (0 : Int) ≤ (k : Int) := by omega
      have hi1 : (k : Int) < (n : Int) := by omega
      have HST := Lib.hid (numOf_step hx hlt hn)
      go_wp2_with fail
      exact ⟨⟨k + 1, by go_num, hlt, congrArg _ HST.out, trivial⟩, by simp [intOf]; omega⟩
    · obtain rfl : k = n := by omega
      rw [List.take_of_length_le (by omega)]
      clear hlt hk
      go_wp2_with fail
      go_ret
      exact ⟨rfl, rfl⟩
set_option maxRecDepth 100000 in
theorem wtaker_any (w : World) (A : Option Addr) (n c : Nat) :
    Calls Tryz.prog 70 #[.slice A n c] w fun e w' => e = .returned (.func (.func 97) #[] #[.pointer (some ⟨w.heap.size, 0, none⟩)]) ∧ w' = w.alloc (.cells #[.slice A n c] 68) := by
  go_enter Tryz.func70, Tryz.ntmps70
  go_wp2_with fail
  go_ret
  exact ⟨rfl, rfl⟩
set_option maxRecDepth 100000 in
/-- 's[:e:e]' of bytes. -/
theorem slice_top {w : World} {A : Option Addr} {n c : Nat} {l : List UInt8} (hr : Rd w A n l) (k : Nat) (hk : k ≤ n) (hc : n ≤ c) :
    (∀ W, (Instr.slice 68 (.slice A n c) none (some (.int .i64 (k : Int))) (some (.int .i64 (k : Int)))).run Tryz.prog W = .ok (.slice A k k) W) ∧ Rd w A k (l.take k) := by
  refine ⟨fun W => ?_, hr.take hk⟩
  have h := run_slice_hm (P := Tryz.prog) (w := W) (t := 68) (a := A) (len := n) (cap := c) Tryz.underlying68 .i64 .i64 k k (by omega) (by omega) (by omega)
  have hz : (sizeOf (Tryz.prog.elem 68)).run Tryz.prog W = .ok 1 W := by go_simp
  rw [h, hz]
  have h0 : A.map (fun x => x.add 0) = A := by cases A <;> simp [Addr.add]
  simp [Result.andThen, sliced, h0]
set_option maxRecDepth 100000 in
/-- A piece taken off: it, and what is left in the box. -/
theorem wtake_any {w : World} {g : Nat} {A : Option Addr} {n c : Nat} {l : List UInt8} (h : BoxR w g A n c l) (s : Nat) (hn : s ≤ n) :
    Calls Tryz.prog 97 #[.int .i64 s, .pointer (some ⟨g, 0, none⟩)] w fun e w' => e = .returned (.slice A s s) ∧ Rd w' A s (l.take s) ∧ (∃ A', BoxR w' g A' (n - s) (c - s) (l.drop s) ∧ ∀ ad, A' = some ad → ∃ ad0, A = some ad0 ∧ ad.block = ad0.block) ∧ Fr (fun k => k = g) w w' := by
  obtain ⟨h1, h2, hnc, hA, hne⟩ := h
  have hl := h2.len
  have hc0 := h1.cell 0
  have hf0 := h1.frozen 0
  simp at hc0
  have hst := slice_top h2 s hn hnc
  obtain ⟨A', hsf, hrf, hAf, hbf⟩ := slice_from (P := Tryz.prog) (t := 68) Tryz.underlying68 (fun w => by go_simp) h2 hnc hA s hn
  have hs1 := hst.1
  have HR := Lib.hid (And.intro h1 (And.intro h2 (And.intro hst.2 (And.intro hrf (And.intro hAf hbf)))))
  clear hst hrf hAf hbf h1 h2
  go_enter Tryz.func97, Tryz.ntmps97
  go_wp2_with fail
  go_ret
  obtain ⟨q1, q2, q3, q4, q5, q6⟩ := HR.out
  have hf : Fr (fun i => i = g) w (w.setCell ⟨g, 0, none⟩ (.slice A' (n - s) (c - s))) := (Fr.refl (fun i => i = g) w).setCell (p := ⟨g, 0, none⟩) (.inl rfl) _
  have hne' : ∀ ad, A' = some ad → ad.block ≠ g := fun ad e => by
    obtain ⟨ad0, e0, e1⟩ := q6 ad e
    rw [e1]
    exact hne ad0 e0
  exact ⟨rfl, q3.keep hf hne, ⟨A', ⟨q1.set_ 0 _, q4.keep hf hne', by omega, q5, hne'⟩, q6⟩, hf⟩
end Go.Proofs.YtjdbgojnpnlblaaGreat
