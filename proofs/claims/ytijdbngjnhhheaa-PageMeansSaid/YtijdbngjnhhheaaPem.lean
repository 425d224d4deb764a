/- firstEmpty, room, noughts, may, find. -/
import Derived.Test.YtijdbngjnhhheaaPsp
import Derived.Laws.IdiomStrings
namespace Go.Proofs.Ytijdbngjnhhheaa
open Go.RowKit

set_option maxRecDepth 100000 in
theorem mayKind_any (w : World) {n : Nat} (h : n ≤ 4) : Calls Try.prog 31 #[.int .i64 n] w fun e w' => e = .returned (.bool true) ∧ w = w' := by
  have h' : decide ((n : Int) ≤ 4) = true := by simp; omega
  go_enter Try.func31, Try.ntmps31
  go_wp2_with fail
  go_ret
  exact ⟨rfl, rfl⟩
set_option maxRecDepth 100000 in
theorem mayNext_any (w : World) {n : Nat} (h : n ≤ 2147483647) : Calls Try.prog 39 #[.int .i64 n] w fun e w' => e = .returned (.bool true) ∧ w = w' := by
  have h' : decide ((n : Int) ≤ 2147483647) = true := by simp; omega
  go_enter Try.func39, Try.ntmps39
  go_wp2_with fail
  go_ret
  exact ⟨rfl, rfl⟩
set_option maxRecDepth 100000 in
theorem equal_any {w : World} {A B : Option Addr} {n c m d : Nat} {l r : List UInt8} (h : Rd w A n l) (k : Rd w B m r) : Calls Try.prog 76 #[.slice A n c, .slice B m d] w fun e w' => e = .returned (.bool (l == r)) ∧ w = w' := by
  have h1 := conv_string (P := Try.prog) (c := c) 34 9 5 h Try.underlying34 Try.underlying5 Try.underlying9
  have h2 := conv_string (P := Try.prog) (c := d) 34 9 5 k Try.underlying34 Try.underlying5 Try.underlying9
  clear h k
  go_enter Try.func76, Try.ntmps76
  go_wp2_with fail
  go_ret
  exact ⟨rfl, rfl⟩
section
variable {w : World} {P : Nat} {x : PD}
set_option maxRecDepth 100000 in
theorem noughts_any {A : Option Addr} {n c : Nat} (h : Rd w A n (nought n)) (hn : n < 512) : Calls Try.prog 64 #[.slice A n c] w fun e w' => e = .returned (.bool true) ∧ Fr (fun _ => False) w w' := by
  have f0 := (Fr.refl (fun _ => False) w).alloc (.cells (cellsB (nought 512)).toArray 26)
  have hb := Blk.new w 26 (cellsB (nought 512)).toArray
  have hr : Rd (w.alloc (.cells (cellsB (nought 512)).toArray 26)) (some ⟨w.heap.size, 0, none⟩) n (nought n) := by
    have := blk_rd (o := 0) (n := n) hb (by simp [nought_len]; omega)
    have e : sub (nought 512) 0 n = nought n := by
      unfold sub nought
      rw [List.drop_zero, List.take_replicate]
      congr 1
      omega
    rwa [e] at this
  have HE : Hid (Calls Try.prog 76 #[.slice A n c, .slice (some ⟨w.heap.size, 0, none⟩) n 512] (w.alloc (.cells (cellsB (nought 512)).toArray 26)) fun e w' => e = .returned (.bool true) ∧ (w.alloc (.cells (cellsB (nought 512)).toArray 26)) = w') := Lib.hid (by
    have := equal_any (c := c) (d := 512) (h.keep f0 (fun _ _ q => q)) hr
    simpa using this)
  have hs : ∀ W, (Instr.sliceAt 26 (.pointer (some ⟨w.heap.size, 0, none⟩)) none (some (.int .i64 n)) none).run Try.prog W = .ok (.slice (some ⟨w.heap.size, 0, none⟩) n 512) W := fun W => by
    rw [run_sliceAt_array_h W 26 _ (by kernel_rfl) .i64 n (by omega) (by rw [pageLen]; omega), pageSz]
    simp [Result.andThen, slicedAt, pageLen, addr_add]
  have HF := Lib.hid f0
  clear h hb hr f0
  go_enter Try.func64, Try.ntmps64
  go_wp2_with (refine wpList_zero rfl 26 rfl zeroPage ?_)
  refine HE.out.mono ?_
  rintro e w' ⟨rfl, rfl⟩
  go_wp2_with fail
  go_ret
  exact ⟨rfl, HF.out⟩
set_option maxRecDepth 100000 in
theorem firstEmpty_any (h : PW w P x) (k : x.Ok) : Calls Try.prog 37 #[.pointer (some ⟨P, 0, none⟩)] w fun e w' => e = .returned (.int .i64 (firstE x.s)) ∧ Fr (fun _ => False) w w' := by
  have HM := manyOf_any h k
  have HK := Lib.hid (And.intro h k)
  obtain ⟨m, hm⟩ : ∃ m, m = x.s.length := ⟨_, rfl⟩
  have hm9 : m ≤ 125 := by have := k.many; omega
  rw [← hm] at HM
  have HMm := Lib.hid hm
  clear h k hm
  go_enter Try.func37, Try.ntmps37
  go_wp2_with fail
  refine HM.mono ?_
  rintro e w' ⟨rfl, rfl⟩
  clear HM
  go_wp2_with fail
  go_loopw [6] (fun i wr => ∃ j : Nat, i = .int .i64 j ∧ j ≤ m ∧ Hid (∀ q, q < j → ∃ b, x.s[q]? = some (some b)) ∧ Hid (Fr (fun _ => False) w wr)) (fun i _ => m - (intOf i).toNat)
  case atStart => exact ⟨0, rfl, Nat.zero_le _, Lib.hid (fun q hq => absurd hq (by omega)), Lib.hid (Fr.refl _ _)⟩
  case round =>
    obtain ⟨j, rfl, hj, HA, HF⟩ := hrel
    by_cases hlt : j < m
    · obtain ⟨o, ho⟩ : ∃ o, x.s[j]? = some o := ⟨_, List.getElem?_eq_getElem (by have := HMm.out; omega)⟩
      have HS := spanOf_any (HK.out.1.new HF.out) HK.out.2 (i := j) (by have := HMm.out; omega)
      have HE : Hid (∀ w, Calls Try.prog 62 #[spanV (spanOf x.s j)] w fun e w' => e = .returned (.bool o.isNone) ∧ Fr (fun _ => False) w w') := Lib.hid fun w => slot_empty HK.out.2 ho w
      have HO := Lib.hid ho
      generalize spanV (spanOf x.s j) = sv at *
      clear ho
      go_wp2_with fail
      refine HS.mono ?_
      rintro e w1 ⟨rfl, f1⟩
      have HF1 := Lib.hid (HF.out.trans f1 (fun _ _ q => q))
      clear HS f1
      go_wp2_with fail
      refine (HE.out _).mono ?_
      rintro e w2 ⟨rfl, f2⟩
      have HF2 := Lib.hid (HF1.out.trans f2 (fun _ _ q => q))
      clear HE f2 HF1
      cases o with
      | none =>
        go_wp2_with fail
        go_ret
        exact ⟨ret_int (by rw [firstE_at HA.out (.inl HO.out)]), HF2.out⟩
      | some b =>
        go_wp2_with fail
        refine ⟨⟨j + 1, by go_num, by omega, Lib.hid (fun q hq => ?_), HF2⟩, by simp [intOf]; omega⟩
        by_cases e : q = j
        · subst e; exact ⟨b, HO.out⟩
        · exact HA.out q (by omega)
    · obtain rfl : j = m := by omega
      have HM2 := manyOf_any (HK.out.1.new HF.out) HK.out.2
      rw [← HMm.out] at HM2
      clear hlt hj
      go_wp2_with fail
      refine HM2.mono ?_
      rintro e w' ⟨rfl, rfl⟩
      go_wp2_with fail
      go_ret
      exact ⟨ret_int (by rw [firstE_at HA.out (.inr HMm.out), HMm.out]), HF.out⟩
set_option maxRecDepth 100000 in
theorem room_any (h : PW w P x) (k : x.Ok) : Calls Try.prog 36 #[.pointer (some ⟨P, 0, none⟩)] w fun e w' => e = .returned (.int .i64 x.room) ∧ Fr (fun _ => False) w w' := by
  have HF := free_any h k
  have HE := firstEmpty_any h k
  have HM : Hid (∀ w', Fr (fun _ => False) w w' → Calls Try.prog 33 #[.pointer (some ⟨P, 0, none⟩)] w' fun e w'' => e = .returned (.int .i64 x.s.length) ∧ w' = w'') := Lib.hid fun w' f => manyOf_any (h.new f) k
  have hroom : Hid (x.room = max (-1) (min (((512 - (12 + 4 * x.s.length + tot x.s) : Nat) : Int) - (if firstE x.s = x.s.length then 4 else 0)) 400)) := Lib.hid (by
    unfold PD.room
    have := k.sz
    congr 3
    omega)
  have hfl := firstE_le x.s
  have hml := k.many
  obtain ⟨n, hn⟩ : ∃ n, n = 512 - (12 + 4 * x.s.length + tot x.s) := ⟨_, rfl⟩
  have hn9 : n ≤ 512 := by omega
  rw [← hn] at HF hroom
  generalize firstE x.s = fe at *
  generalize x.s.length = m at *
  generalize x.room = rm at *
  clear h k hn
  by_cases hfm : fe = m
  · subst hfm
    have hb : ((fe : Int) == (fe : Int)) = true := by simp
    have hr2 : Hid (rm = max (-1) (min ((n : Int) - 4) 400)) := Lib.hid (by simpa using hroom.out)
    clear hroom hfl
    go_enter Try.func36, Try.ntmps36
    go_wp2_with fail
    refine HF.mono ?_
    rintro e w' ⟨rfl, rfl⟩
    go_wp2_with fail
    refine HE.mono ?_
    rintro e w1 ⟨rfl, f1⟩
    go_wp2_with fail
    refine (HM.out _ f1).mono ?_
    rintro e w' ⟨rfl, rfl⟩
    go_wp2_with fail
    all_goals
      go_ret
      exact ⟨ret_int (by rw [hr2.out]; omega), f1⟩
  · have hb : ((fe : Int) == (m : Int)) = false := by simp; omega
    have hr2 : Hid (rm = max (-1) (min (n : Int) 400)) := Lib.hid (by simpa [hfm] using hroom.out)
    clear hroom hfl
    go_enter Try.func36, Try.ntmps36
    go_wp2_with fail
    refine HF.mono ?_
    rintro e w' ⟨rfl, rfl⟩
    go_wp2_with fail
    refine HE.mono ?_
    rintro e w1 ⟨rfl, f1⟩
    go_wp2_with fail
    refine (HM.out _ f1).mono ?_
    rintro e w' ⟨rfl, rfl⟩
    go_wp2_with fail
    all_goals
      go_ret
      exact ⟨ret_int (by rw [hr2.out]; omega), f1⟩
end
end Go.Proofs.Ytijdbngjnhhheaa
