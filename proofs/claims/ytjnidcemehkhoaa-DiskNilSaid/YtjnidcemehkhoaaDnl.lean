/- The law DiskNil: what a disk that is not there, and a zero one, answer. -/
import Derived.Test.YtjnidcemehkhoaaKno
import Derived.Test.YtjnidcemehkhoaaLaw
namespace Go.Proofs.Ytjnidcemehkhoaa
open Go.RowKit Go.Maps

section
variable {p : Value} {w : World} (hN : Calls Try.prog 38 #[p] w fun e w' => e = .returned (.bool true) ∧ w = w')
include hN
theorem z_sectors : Calls Try.prog 27 #[p] w fun e w' => e = .returned (.int .i64 0) ∧ w = w' := by
  go_enter Try.func27, Try.ntmps27
  go_wp2_with (go_at_call 38; refine hN.mono ?_; rintro e w' ⟨rfl, rfl⟩)
  go_ret
  exact ⟨rfl, rfl⟩
theorem z_dead : Calls Try.prog 24 #[p] w fun e w' => e = .returned (.bool false) ∧ w = w' := by
  go_enter Try.func24, Try.ntmps24
  go_wp2_with (go_at_call 38; refine hN.mono ?_; rintro e w' ⟨rfl, rfl⟩)
  go_ret
  exact ⟨rfl, rfl⟩
theorem z_has (i : Int) : Calls Try.prog 36 #[p, .int .i64 i] w fun e w' => e = .returned (.int .i64 1) ∧ w = w' := by
  go_enter Try.func36, Try.ntmps36
  go_wp2_with (go_at_call 38; refine hN.mono ?_; rintro e w' ⟨rfl, rfl⟩)
  go_ret
  exact ⟨rfl, rfl⟩
theorem z_fuse (i : Int) : Calls Try.prog 23 #[p, .int .i64 i] w fun e w' => e = .returned (.int .i64 1) ∧ w = w' := by
  go_enter Try.func23, Try.ntmps23
  go_wp2_with (go_at_call 38; refine hN.mono ?_; rintro e w' ⟨rfl, rfl⟩)
  go_ret
  exact ⟨rfl, rfl⟩
theorem z_flush : Calls Try.prog 16 #[p] w fun e w' => e = .returned (.int .i64 1) ∧ w = w' := by
  go_enter Try.func16, Try.ntmps16
  go_wp2_with (go_at_call 38; refine hN.mono ?_; rintro e w' ⟨rfl, rfl⟩)
  go_ret
  exact ⟨rfl, rfl⟩
theorem z_crash (q : Value) : Calls Try.prog 18 #[p, q] w fun e w' => e = .returned (.int .i64 1) ∧ w = w' := by
  go_enter Try.func18, Try.ntmps18
  go_wp2_with (go_at_call 38; refine hN.mono ?_; rintro e w' ⟨rfl, rfl⟩)
  go_ret
  exact ⟨rfl, rfl⟩
theorem z_open : Calls Try.prog 19 #[p] w fun e w' => e = .returned (.slice none 0 0) ∧ w = w' := by
  go_enter Try.func19, Try.ntmps19
  go_wp2_with (go_at_call 38; refine hN.mono ?_; rintro e w' ⟨rfl, rfl⟩)
  go_ret
  exact ⟨rfl, rfl⟩
theorem z_copy : Calls Try.prog 17 #[p] w fun e w' => e = .returned (.pointer none) ∧ w = w' := by
  go_enter Try.func17, Try.ntmps17
  go_wp2_with (go_at_call 38; refine hN.mono ?_; rintro e w' ⟨rfl, rfl⟩)
  go_ret
  exact ⟨rfl, rfl⟩
end
/-- Of unlike sizes: not the same. Of none both: the same. -/
theorem same_not {p q : Value} {w : World} {n m : Int} (h1 : Calls Try.prog 27 #[p] w fun e w' => e = .returned (.int .i64 n) ∧ w = w') (h2 : Calls Try.prog 27 #[q] w fun e w' => e = .returned (.int .i64 m) ∧ w = w') (hne : n ≠ m) :
    Calls Try.prog 22 #[p, q] w fun e w' => e = .returned (.bool false) ∧ w = w' := by
  have hb : (n == m) = false := by simp [hne]
  go_enter Try.func22, Try.ntmps22
  go_wp2_with fail
  refine h1.mono ?_
  rintro e w' ⟨rfl, rfl⟩
  go_wp2_with fail
  refine h2.mono ?_
  rintro e w' ⟨rfl, rfl⟩
  go_wp2_with fail
  go_ret
  exact ⟨rfl, rfl⟩
theorem same_none {p q : Value} {w : World} (h1 : Calls Try.prog 27 #[p] w fun e w' => e = .returned (.int .i64 0) ∧ w = w') (h2 : Calls Try.prog 27 #[q] w fun e w' => e = .returned (.int .i64 0) ∧ w = w') :
    Calls Try.prog 22 #[p, q] w fun e w' => e = .returned (.bool true) ∧ w = w' := by
  go_enter Try.func22, Try.ntmps22
  go_wp2_with fail
  refine h1.mono ?_
  rintro e w' ⟨rfl, rfl⟩
  go_wp2_with fail
  refine h2.mono ?_
  rintro e w' ⟨rfl, rfl⟩
  go_wp2_with fail
  refine h1.mono ?_
  rintro e w' ⟨rfl, rfl⟩
  go_wp2_with fail
  go_loopw [13] (fun i wr => i = .int .i64 0 ∧ wr = w) (fun _ _ => 0)
  case atStart => exact ⟨rfl, rfl⟩
  case round =>
    obtain ⟨rfl, rfl⟩ := hrel
    go_wp2_with fail
    go_ret
    exact ⟨rfl, rfl⟩

set_option maxRecDepth 100000 in
theorem zero_cells : Value.agg Try.zeroCells34 = av (nought 128) := by kernel_rfl
set_option maxRecDepth 100000 in
set_option maxHeartbeats 4000000 in
theorem nil_any (w : World) : Calls Try.prog 8 #[] w fun e w' => e = .returned (.bool true) ∧ Fr (fun _ => False) w w' := by
  obtain ⟨Z, hZ⟩ : ∃ Z, Z = w.heap.size := ⟨_, rfl⟩
  obtain ⟨q, hq⟩ : ∃ q, q = nought 128 := ⟨_, rfl⟩
  have HQ : Hid (q = nought 128 ∧ q.length = 128 ∧ (∀ w, (zeroValue 34).run Try.prog w = .ok (av q) w) ∧ (Value.agg Try.zeroCells34 = av q)) := Lib.hid ⟨hq, hq ▸ nought_len 128, hq ▸ zeroSector, hq ▸ zero_cells⟩
  clear hq
  have hz := Blk.new w 63 (dskC none 0 0 (.map none) false 0 false)
  have hs1 : (w.alloc (.cells (dskC none 0 0 (.map none) false 0 false) 63)).heap.size = w.heap.size + 1 := by
    show (w.heap.push _).size = w.heap.size + 1
    simp
  have hl := Blk.new (w.alloc (.cells (dskC none 0 0 (.map none) false 0 false) 63)) 25 #[.pointer none, .pointer (some ⟨w.heap.size, 0, none⟩)]
  rw [hs1] at hl
  have f1 := (Fr.refl (fun _ => False) (w.alloc (.cells (dskC none 0 0 (.map none) false 0 false) 63))).alloc (.cells #[.pointer none, .pointer (some ⟨w.heap.size, 0, none⟩)] 25)
  have HZ0 := Lib.hid (And.intro (hz.keep f1 (fun q => q)) (And.intro hl (((Fr.refl (fun _ => False) w).alloc (.cells (dskC none 0 0 (.map none) false 0 false) 63)).trans f1 (fun _ _ q => q))))
  clear hz hl hs1 f1
  go_enter Try.func8, Try.ntmps8
  go_wp2_with fail
  generalize (w.alloc (.cells (dskC none 0 0 (.map none) false 0 false) 63)).alloc (.cells #[.pointer none, .pointer (some ⟨w.heap.size, 0, none⟩)] 25) = w1 at *
  rw [← hZ] at HZ0 ⊢
  have HNo : Hid (∀ wr, Fr (fun _ => False) w1 wr → ∀ p, (p = .pointer none ∨ p = .pointer (some ⟨Z, 0, none⟩)) → ∀ w', Fr (fun _ => False) wr w' → Calls Try.prog 38 #[p] w' fun e w'' => e = .returned (.bool true) ∧ w' = w'') := Lib.hid (by
    rintro wr f p (rfl | rfl) w' f'
    · exact none_nil w'
    · have := none_any ((HZ0.out.1.keep f (fun q => q)).keep f' (fun q => q))
      simpa using this)
  obtain ⟨L, hL⟩ : ∃ L, L = Z + 1 := ⟨_, rfl⟩
  rw [← hL] at HZ0 ⊢
  clear hL hZ
  go_loopw [3] (fun s wr => ∃ k : Nat, s = .int .i64 k ∧ k ≤ 2 ∧ Hid (Blk wr L 25 #[.pointer none, .pointer (some ⟨Z, 0, none⟩)] ∧ Fr (fun _ => False) w1 wr)) (fun s _ => 2 - (intOf s).toNat)
  case atStart => exact ⟨0, rfl, by omega, Lib.hid ⟨HZ0.out.2.1, Fr.refl _ _⟩⟩
  case round =>
    obtain ⟨k, rfl, hk, HR⟩ := hrel
    have hk' : k = 0 ∨ k = 1 ∨ k = 2 := by omega
    clear hk
    rcases hk' with rfl | rfl | rfl
    · have hcp := HR.out.1.cell 0
      simp at hcp
      have HN := Lib.hid (HNo.out wr HR.out.2 (.pointer none) (.inl rfl))
      clear HNo
      have hR := read_err (w := wr) (p := .pointer none) (i := 0) (x := 1) (by omega) (fun w' f => z_has (HN.out w' f) 0)
      rw [← HQ.out.1] at hR
      go_wp2_with fail
      refine hR.mono ?_
      rintro e w2 ⟨rfl, f2⟩
      have hbn := Blk.new w2 34 (cellsB q).toArray
      go_wp2_with (first
        | (refine wpList_zero rfl 34 rfl HQ.out.2.2.1 ?_)
        | (refine wpList_store_mid rfl 34 _ _ rfl w2.heap.size 0 (cellsB q).toArray rfl rfl (hbn.there (by simp [cellsB_len, HQ.out.2.1])) (by rw [infoSector]; simp [cellsB_len, HQ.out.2.1]) (all_oneCell_toArray (cellsB_one _)) ?_))
      have f3 : Fr (fun _ => False) wr ((w2.alloc (.cells (cellsB q).toArray 34)).setCells w2.heap.size 0 (cellsB q)) := Fr.setCells (.inr f2.size) (f2.alloc _)
      clear hbn f2 hR
      generalize (w2.alloc (.cells (cellsB q).toArray 34)).setCells w2.heap.size 0 (cellsB q) = w3 at *
      rw [HQ.out.2.2.2]
      refine (write_err (w := w3) (p := .pointer none) (i := 0) (x := 1) (s := q) (by omega) (fun w' f => z_has (HN.out w' (f3.trans f (fun _ _ q => q))) 0)).mono ?_
      rintro e w4 ⟨rfl, f4⟩
      have f34 := f3.trans f4 (fun _ _ q => q)
      have hN := HN.out w4 f34
      have H1 := z_flush hN
      have H2 := z_fuse hN (-1)
      have H3 := z_crash hN (.slice none 0 0)
      have H4 := z_sectors hN
      have H5 := z_dead hN
      have H6 := z_open hN
      have H7 := z_copy hN
      have H8 := same_none H4 (sectors_nil w4)
      have HE := Lib.hid f34
      clear f3 f4 f34 hN
      go_wp2_with (first
        | (go_at_call 16; refine H1.mono ?_; rintro e w' ⟨rfl, rfl⟩)
        | (go_at_call 23; refine H2.mono ?_; rintro e w' ⟨rfl, rfl⟩)
        | (go_at_call 18; refine H3.mono ?_; rintro e w' ⟨rfl, rfl⟩)
        | (go_at_call 27; refine H4.mono ?_; rintro e w' ⟨rfl, rfl⟩)
        | (go_at_call 24; refine H5.mono ?_; rintro e w' ⟨rfl, rfl⟩)
        | (go_at_call 19; refine H6.mono ?_; rintro e w' ⟨rfl, rfl⟩)
        | (go_at_call 17; refine H7.mono ?_; rintro e w' ⟨rfl, rfl⟩)
        | (go_at_call 22; refine H8.mono ?_; rintro e w' ⟨rfl, rfl⟩))
      exact ⟨⟨1, rfl, by omega, Lib.hid ⟨HR.out.1.keep HE.out (fun q => q), HR.out.2.trans HE.out (fun _ _ q => q)⟩⟩, by simp [intOf]⟩
    · have hcp := HR.out.1.cell 1
      simp at hcp
      have HN := Lib.hid (HNo.out wr HR.out.2 (.pointer (some ⟨Z, 0, none⟩)) (.inr rfl))
      clear HNo
      have hR := read_err (w := wr) (p := .pointer (some ⟨Z, 0, none⟩)) (i := 0) (x := 1) (by omega) (fun w' f => z_has (HN.out w' f) 0)
      rw [← HQ.out.1] at hR
      go_wp2_with fail
      refine hR.mono ?_
      rintro e w2 ⟨rfl, f2⟩
      have hbn := Blk.new w2 34 (cellsB q).toArray
      go_wp2_with (first
        | (refine wpList_zero rfl 34 rfl HQ.out.2.2.1 ?_)
        | (refine wpList_store_mid rfl 34 _ _ rfl w2.heap.size 0 (cellsB q).toArray rfl rfl (hbn.there (by simp [cellsB_len, HQ.out.2.1])) (by rw [infoSector]; simp [cellsB_len, HQ.out.2.1]) (all_oneCell_toArray (cellsB_one _)) ?_))
      have f3 : Fr (fun _ => False) wr ((w2.alloc (.cells (cellsB q).toArray 34)).setCells w2.heap.size 0 (cellsB q)) := Fr.setCells (.inr f2.size) (f2.alloc _)
      clear hbn f2 hR
      generalize (w2.alloc (.cells (cellsB q).toArray 34)).setCells w2.heap.size 0 (cellsB q) = w3 at *
      rw [HQ.out.2.2.2]
      refine (write_err (w := w3) (p := .pointer (some ⟨Z, 0, none⟩)) (i := 0) (x := 1) (s := q) (by omega) (fun w' f => z_has (HN.out w' (f3.trans f (fun _ _ q => q))) 0)).mono ?_
      rintro e w4 ⟨rfl, f4⟩
      have f34 := f3.trans f4 (fun _ _ q => q)
      have hN := HN.out w4 f34
      have H1 := z_flush hN
      have H2 := z_fuse hN (-1)
      have H3 := z_crash hN (.slice none 0 0)
      have H4 := z_sectors hN
      have H5 := z_dead hN
      have H6 := z_open hN
      have H7 := z_copy hN
      have H8 := same_none H4 (sectors_nil w4)
      have HE := Lib.hid f34
      clear f3 f4 f34 hN
      go_wp2_with (first
        | (go_at_call 16; refine H1.mono ?_; rintro e w' ⟨rfl, rfl⟩)
        | (go_at_call 23; refine H2.mono ?_; rintro e w' ⟨rfl, rfl⟩)
        | (go_at_call 18; refine H3.mono ?_; rintro e w' ⟨rfl, rfl⟩)
        | (go_at_call 27; refine H4.mono ?_; rintro e w' ⟨rfl, rfl⟩)
        | (go_at_call 24; refine H5.mono ?_; rintro e w' ⟨rfl, rfl⟩)
        | (go_at_call 19; refine H6.mono ?_; rintro e w' ⟨rfl, rfl⟩)
        | (go_at_call 17; refine H7.mono ?_; rintro e w' ⟨rfl, rfl⟩)
        | (go_at_call 22; refine H8.mono ?_; rintro e w' ⟨rfl, rfl⟩))
      exact ⟨⟨2, rfl, by omega, Lib.hid ⟨HR.out.1.keep HE.out (fun q => q), HR.out.2.trans HE.out (fun _ _ q => q)⟩⟩, by simp [intOf]⟩
    · have HN := Lib.hid (HNo.out wr HR.out.2 (.pointer (some ⟨Z, 0, none⟩)) (.inr rfl))
      clear HNo
      go_wp2_with fail
      refine (new_any _ (n := 8192) (by omega) (by omega)).mono ?_
      rintro e w2 ⟨rfl, h2, f2⟩
      have hsc : Calls Try.prog 27 #[.pointer (some ⟨wr.heap.size + 1 + 1, 0, none⟩)] w2 fun e w' => e = .returned (.int .i64 8192) ∧ w2 = w' := by
        have := sectors_any h2.blk
        have e : (newD 8192).rd.length = 8192 := by simp [newD]
        rw [e] at this
        exact this
      have hz2 := z_sectors (HN.out w2 f2)
      have H1 := same_not hsc (sectors_nil w2) (by omega)
      have H2 := same_not hz2 hsc (by omega)
      have HF2 := Lib.hid f2
      clear h2 f2 hz2
      go_wp2_with fail
      refine hsc.mono ?_
      rintro e w3 ⟨rfl, rfl⟩
      go_wp2_with fail
      refine H1.mono ?_
      rintro e w3 ⟨rfl, rfl⟩
      go_wp2_with fail
      refine H2.mono ?_
      rintro e w3 ⟨rfl, rfl⟩
      go_wp2_with fail
      refine (known_any _).mono ?_
      rintro e w4 ⟨rfl, f4⟩
      go_wp2_with fail
      go_ret
      exact ⟨rfl, ((HZ0.out.2.2.trans HR.out.2 (fun _ _ q => q)).trans HF2.out (fun _ _ q => q)).trans f4 (fun _ _ q => q)⟩
end Go.Proofs.Ytjnidcemehkhoaa
