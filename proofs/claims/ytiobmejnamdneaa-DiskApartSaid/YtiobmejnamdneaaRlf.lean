/- The document's disk: Left. -/
import Derived.Test.YtiobmejnamdneaaRfs
namespace Go.Proofs.Ytiobmejnamdneaa
open Go.RowKit Go.Maps

/-- All that picks may leave, up to the version j. -/
def allTo (vs : List (List UInt8)) : Nat → List (List UInt8)
  | 0 => [vs.getD 0 []]
  | j + 1 => allTo vs j ++ [vs.getD (j + 1) [], tornL (vs.getD (j + 1) []) (vs.getD j [])]
theorem allTo_len (vs : List (List UInt8)) : ∀ j, (allTo vs j).length = 2 * j + 1
  | 0 => rfl
  | j + 1 => by
    simp only [allTo, List.length_append, allTo_len vs j, List.length_cons, List.length_nil]
    omega
theorem allTo_at (vs : List (List UInt8)) : ∀ j p, p < 2 * j + 1 → (allTo vs j)[p]? = some (leftL vs p)
  | 0, p, h => by
    have e : p = 0 := by omega
    subst e
    simp [allTo, leftL]
  | j + 1, p, h => by
    by_cases hp : p < 2 * j + 1
    · simp only [allTo]
      rw [List.getElem?_append_left (by rw [allTo_len]; exact hp)]
      exact allTo_at vs j p hp
    · simp only [allTo]
      rw [List.getElem?_append_right (by rw [allTo_len]; omega), allTo_len]
      have h2 : p = 2 * j + 1 ∨ p = 2 * j + 2 := by omega
      rcases h2 with rfl | rfl
      · have e1 : (2 * j + 1 + 1) / 2 = j + 1 := by omega
        have e2 : ¬ (0 < 2 * j + 1 ∧ (2 * j + 1) % 2 = 0) := by omega
        unfold leftL
        rw [if_neg e2, e1]
        simp
      · have e1 : (2 * j + 2 + 1) / 2 = j + 1 := by omega
        have e2 : 0 < 2 * j + 2 ∧ (2 * j + 2) % 2 = 0 := by omega
        unfold leftL
        rw [if_pos e2, e1]
        have e3 : 2 * j + 2 - (2 * j + 1) = 1 := by omega
        rw [e3]
        simp
theorem allTo_all {vs : List (List UInt8)} (h : ∀ s ∈ vs, s.length = 128) : ∀ j, j < vs.length → ∀ s ∈ allTo vs j, s.length = 128
  | 0, hj, s, hs => by
    simp only [allTo, List.mem_singleton] at hs
    rw [hs, List.getD_eq_getElem?_getD, List.getElem?_eq_getElem hj]
    exact h _ (List.getElem_mem hj)
  | j + 1, hj, s, hs => by
    have hg : ∀ q, q < vs.length → (vs.getD q []).length = 128 := fun q hq => by
      rw [List.getD_eq_getElem?_getD, List.getElem?_eq_getElem hq]
      exact h _ (List.getElem_mem hq)
    simp only [allTo, List.mem_append, List.mem_cons, List.not_mem_nil, or_false] at hs
    rcases hs with q | q | q
    · exact allTo_all h j (by omega) s q
    · rw [q]; exact hg _ hj
    · rw [q]; exact tornL_len (hg _ hj) (hg _ (by omega))
set_option maxRecDepth 100000 in
set_option maxHeartbeats 4000000 in
theorem rleft_any {w : World} {v : Value} {us : List (List UInt8)} (h : SecV w v us) (h0 : 0 < us.length) (hN : us.length ≤ 10000) {pick : Int} (hp0 : -9223372036854775808 ≤ pick) (hp1 : pick ≤ 9223372036854775807) :
    Calls Try.prog 38 #[v, .int .i64 pick] w fun e w' => e = .returned (av (leftL us (pickN us.length pick))) ∧ Fr (fun _ => False) w w' := by
  have hall := h.all128
  obtain ⟨A, ca, hv, hm1, hm2, h3⟩ := h
  obtain ⟨b, off, rfl, hsec⟩ := h3 h0
  obtain ⟨m, hm⟩ : ∃ m, m = us.length := ⟨_, rfl⟩
  have hz : (leftL us (pickN us.length pick)).length = 128 := leftL_len hall h0 pick
  obtain ⟨z, hze⟩ : ∃ z, z = leftL us (pickN us.length pick) := ⟨_, rfl⟩
  rw [← hze] at hz ⊢
  have hbl : b < w.heap.size := by
    obtain ⟨q1, q2⟩ := hsec 0 us[0] (List.getElem?_eq_getElem h0)
    exact World.block_lt_of_cell? w _ (q2 0 ((cellsB us[0])[0]'(by rw [cellsB_len, q1]; omega)) (List.getElem?_eq_getElem _))
  rw [← hm] at hv h0 hN
  subst hv
  obtain ⟨B, hB⟩ : ∃ B, B = w.heap.size := ⟨_, rfl⟩
  have hb0 := Blk.new w 31 (cellsB (nought 128)).toArray
  have fa := (Fr.refl (fun _ => False) w).alloc (.cells (cellsB (nought 128)).toArray 31)
  have HH := Lib.hid (And.intro hm (And.intro hsec (And.intro hall (And.intro hze (And.intro hz (And.intro hB hbl))))))
  obtain ⟨x0, hx0⟩ : ∃ x, us[0]? = some x := ⟨_, List.getElem?_eq_getElem (by omega)⟩
  have HX0 : Hid (x0.length = 128 ∧ us.getD 0 [] = x0) := Lib.hid ⟨hall x0 (List.mem_of_getElem? hx0), by rw [List.getD_eq_getElem?_getD, hx0]; rfl⟩
  have HR0 : Hid ((w.alloc (.cells (cellsB (nought 128)).toArray 31)).rangeAt b off (cellsB x0)) := Lib.hid (by
    have := ((hsec.keep fa (fun q => q)) 0 x0 hx0).2
    rwa [Nat.zero_mul, Nat.add_zero] at this)
  have HB := Lib.hid (And.intro hb0 fa)
  have hi1 : (0 : Int) < (m : Int) := by omega
  clear hm hsec hall hze hz hB hb0 fa hx0 hm1 hm2 h3 hbl
  go_enter Try.func38, Try.ntmps38
  go_wp2_with (first
    | (refine wpList_zero rfl 31 rfl zeroSector ?_)
    | (refine wpList_load_mid rfl 31 _ rfl b off rfl (cellsB x0) _ HR0.out Try.underlying31 rfl (by rw [infoSector, cellsB_len, HX0.out.1]) ?_)
    | (refine wpList_build_sec rfl _ rfl HX0.out.1 rfl ?_))
  have hsa : (w.alloc (.cells (cellsB (nought 128)).toArray 31)).heap.size = w.heap.size + 1 := by
    show (w.heap.push _).size = _
    simp
  have H5 : Hid (((w.alloc (.cells (cellsB (nought 128)).toArray 31)).alloc (.cells (cellsB x0).toArray 31)).ownsRow 0 31 128 (.slice (some ⟨(w.alloc (.cells (cellsB (nought 128)).toArray 31)).heap.size, 0, none⟩) 1 1) (2 * 0 + 1) (cellsB (allTo us 0).flatten) ∧
      Fr (fun _ => False) w ((w.alloc (.cells (cellsB (nought 128)).toArray 31)).alloc (.cells (cellsB x0).toArray 31)) ∧
      Blk ((w.alloc (.cells (cellsB (nought 128)).toArray 31)).alloc (.cells (cellsB x0).toArray 31)) B 31 (cellsB (nought 128)).toArray) := Lib.hid ⟨by
    have h1 := own_one (Blk.new (w.alloc (.cells (cellsB (nought 128)).toArray 31)) 31 (cellsB x0).toArray) HX0.out.1
    have e : (allTo us 0).flatten = x0 := by simp only [allTo, HX0.out.2]; simp
    rw [e]
    exact h1, HB.out.2.alloc _, by rw [HH.out.2.2.2.2.2.1]; exact HB.out.1.keep (F := fun _ => False) ((Fr.refl _ _).alloc _) (fun q => q)⟩
  generalize (w.alloc (.cells (cellsB (nought 128)).toArray 31)).alloc (.cells (cellsB x0).toArray 31) = w1 at *
  rw [hsa] at H5
  obtain ⟨al0, hal0⟩ : ∃ al, al = Value.slice (some ⟨w.heap.size + 1, 0, none⟩) 1 1 := ⟨_, rfl⟩
  have HAl : Hid (∀ k, al0.ownBlock = some k → B < k) := Lib.hid fun k hk => by
    rw [hal0] at hk
    have e : w.heap.size + 1 = k := by simpa [Value.ownBlock] using hk
    have := HH.out.2.2.2.2.2.1
    omega
  rw [← hal0] at H5 ⊢
  obtain ⟨B2, hB2⟩ : ∃ B2, B2 = w.heap.size := ⟨_, rfl⟩
  have HB2 : Hid (B2 = B) := Lib.hid (by rw [hB2]; exact HH.out.2.2.2.2.2.1.symm)
  rw [← hB2]
  clear hal0 hsa hB2
  go_loopw [5, 6] (fun al i wr => ∃ (j : Nat) (Aa : Option Addr) (c : Nat), i = .int .i64 ((j + 1 : Nat) : Int) ∧ al = .slice Aa (2 * j + 1) c ∧ j + 1 ≤ m ∧ Hid (wr.ownsRow 0 31 128 al (2 * j + 1) (cellsB (allTo us j).flatten)) ∧ Hid (Fr (fun _ => False) w wr ∧ Blk wr B 31 (cellsB (nought 128)).toArray ∧ ∀ k, al.ownBlock = some k → B < k)) (fun _ i _ => m - (intOf i).toNat)
  case atStart =>
    obtain ⟨Aa, c, e1, _, _⟩ := own_slice H5.out.1
    exact ⟨0, Aa, c, rfl, e1, by omega, Lib.hid H5.out.1, Lib.hid ⟨H5.out.2.1, H5.out.2.2, HAl.out⟩⟩
  case round =>
    obtain ⟨j, Aa, c, rfl, rfl, hj, HRw, HFb⟩ := hrel
    clear H5 HAl HX0 HR0 HB
    obtain ⟨k, hk⟩ : ∃ k, k = j + 1 := ⟨_, rfl⟩
    rw [← hk] at hj ⊢
    have HK := Lib.hid hk
    by_cases hlt : k < m
    · obtain ⟨y, hy⟩ : ∃ y, us[k]? = some y := ⟨_, List.getElem?_eq_getElem (by have := HH.out.1; omega)⟩
      obtain ⟨y2, hy2⟩ : ∃ y, us[j]? = some y := ⟨_, List.getElem?_eq_getElem (by have := HH.out.1; omega)⟩
      have hyl := HH.out.2.2.1 y (List.mem_of_getElem? hy)
      have hyl2 := HH.out.2.2.1 y2 (List.mem_of_getElem? hy2)
      obtain ⟨t, ht⟩ : ∃ t, t = tornL y y2 := ⟨_, rfl⟩
      have hal : allTo us k = (allTo us j ++ [y]) ++ [t] := by
        rw [hk]
        simp only [allTo]
        rw [← hk, List.getD_eq_getElem?_getD, List.getD_eq_getElem?_getD, hy, hy2, ht]
        simp
      have HY : Hid (y.length = 128 ∧ y2.length = 128 ∧ t.length = 128 ∧ allTo us k = (allTo us j ++ [y]) ++ [t] ∧ (allTo us j).length = 2 * j + 1) := Lib.hid ⟨hyl, hyl2, ht ▸ tornL_len hyl hyl2, hal, allTo_len us j⟩
      have hbB : b < B := by have := HH.out.2.2.2.2.2.1; have := HH.out.2.2.2.2.2.2; omega
      have HC : Hid (∀ w', Fr (fun q => B ≤ q) wr w' → w'.rangeAt b (off + k * 128) (cellsB y) ∧ w'.rangeAt b (off + j * 128) (cellsB y2)) := Lib.hid fun w' f => by
        have h1 := (HH.out.2.1.keep HFb.out.1 (fun q => q)).keep f (fun q => by have q' : B ≤ b := q; omega)
        exact ⟨(h1 k y hy).2, (h1 j y2 hy2).2⟩
      have hTn : ∀ w'', Calls Try.prog 14 #[av y, av y2] w'' fun e w' => e = .returned (av t) ∧ Fr (fun _ => False) w'' w' := fun w'' => ht ▸ rtorn_any w'' hyl hyl2
      have hu := Try.underlying31
      have hsz : (Try.prog.info? 31).map (·.size) = some (cellsB y).length := by rw [infoSector, cellsB_len, hyl]
      have hsz2 : (Try.prog.info? 31).map (·.size) = some (cellsB y2).length := by rw [infoSector, cellsB_len, hyl2]
      have hi0 : (0 : Int) ≤ (k : Int) := by omega
      have hik : (k : Int) < (m : Int) := by omega
      have hj0 : (0 : Int) ≤ (j : Int) := by omega
      have hjm : (j : Int) < (m : Int) := by omega
      have hkj : (k : Int) - 1 = (j : Int) := by omega
      have hwj : IntKind.i64.wrap (j : Int) = (j : Int) := by
        simp [IntKind.wrap, IntKind.signed, IntKind.bits]
        omega
      have hown0 : (wr.drew).ownsRow 0 31 128 (.slice Aa (2 * j + 1) c) (allTo us j).length (cellsB (allTo us j).flatten) := by rw [HY.out.2.2.2.2]; exact HRw.out
      have HO := Lib.hid hown0
      clear hy hy2 hyl hyl2 ht hal hk hown0 hbB
      go_wp2_with fail
      refine wp_region_held_drew (S := fun w' => Fr (fun q => B ≤ q) wr w') (by kernel_rfl) ((Fr.refl _ _).drew) (fun hS0 => ?_)
      refine anyH_take 0 17 (.slice Aa (2 * j + 1) c) rfl rfl (by kernel_rfl) (by kernel_rfl) (by kernel_rfl) (fun _ _ _ h => h) (.inl ⟨by rfl, fun w'' hS => by go_simp⟩) hS0 ?_
      (simp only [List.setIfInBounds_toArray, List.set_cons_zero, List.set_cons_succ])
      refine anyH_take 1 18 (.slice (some ⟨b, off, none⟩) m ca) rfl rfl (by kernel_rfl) (by kernel_rfl) (by kernel_rfl) (fun _ _ _ h => h) (.inl ⟨by rfl, fun w'' hS => by go_simp⟩) hS0 ?_
      (simp only [List.setIfInBounds_toArray, List.set_cons_zero, List.set_cons_succ])
      refine anyH_take 2 19 (.int .i64 (k : Nat)) rfl rfl (by kernel_rfl) (by kernel_rfl) (by kernel_rfl) (fun _ _ _ h => h) (.inl ⟨by rfl, fun w'' hS => by go_simp⟩) hS0 ?_
      (simp only [List.setIfInBounds_toArray, List.set_cons_zero, List.set_cons_succ])
      refine anyH_take 3 20 (.pointer (some ⟨b, off + k * 128, none⟩)) rfl rfl (by kernel_rfl) (by kernel_rfl) (by kernel_rfl) (fun _ _ _ h => h) (.inl ⟨by rfl, fun w'' hS => by go_simp⟩) hS0 ?_
      (simp only [List.setIfInBounds_toArray, List.set_cons_zero, List.set_cons_succ])
      refine anyH_take 4 21 (.agg (cellsB y).toArray) rfl rfl (by kernel_rfl) (by kernel_rfl) (by kernel_rfl) (fun _ _ _ h => h) (yieldsIf_load_mid (by rfl) _ _ rfl _ _ rfl _ _ (fun w' f => (HC.out w' f).1) hu rfl hsz) hS0 ?_
      (simp only [List.setIfInBounds_toArray, List.set_cons_zero, List.set_cons_succ])
      refine anyH_take 7 24 (.slice (some ⟨b, off, none⟩) m ca) rfl rfl (by kernel_rfl) (by kernel_rfl) (by kernel_rfl) (fun _ _ _ h => h) (.inl ⟨by rfl, fun w'' hS => by go_simp⟩) hS0 ?_
      (simp only [List.setIfInBounds_toArray, List.set_cons_zero, List.set_cons_succ])
      refine anyH_take 8 25 (.int .i64 (k : Nat)) rfl rfl (by kernel_rfl) (by kernel_rfl) (by kernel_rfl) (fun _ _ _ h => h) (.inl ⟨by rfl, fun w'' hS => by go_simp⟩) hS0 ?_
      (simp only [List.setIfInBounds_toArray, List.set_cons_zero, List.set_cons_succ])
      refine anyH_take 9 26 (.pointer (some ⟨b, off + k * 128, none⟩)) rfl rfl (by kernel_rfl) (by kernel_rfl) (by kernel_rfl) (fun _ _ _ h => h) (.inl ⟨by rfl, fun w'' hS => by go_simp⟩) hS0 ?_
      (simp only [List.setIfInBounds_toArray, List.set_cons_zero, List.set_cons_succ])
      refine anyH_take 10 27 (.agg (cellsB y).toArray) rfl rfl (by kernel_rfl) (by kernel_rfl) (by kernel_rfl) (fun _ _ _ h => h) (yieldsIf_load_mid (by rfl) _ _ rfl _ _ rfl _ _ (fun w' f => (HC.out w' f).1) hu rfl hsz) hS0 ?_
      (simp only [List.setIfInBounds_toArray, List.set_cons_zero, List.set_cons_succ])
      refine anyH_take 11 28 (.slice (some ⟨b, off, none⟩) m ca) rfl rfl (by kernel_rfl) (by kernel_rfl) (by kernel_rfl) (fun _ _ _ h => h) (.inl ⟨by rfl, fun w'' hS => by go_simp⟩) hS0 ?_
      (simp only [List.setIfInBounds_toArray, List.set_cons_zero, List.set_cons_succ])
      refine anyH_take 12 29 (.int .i64 (k : Nat)) rfl rfl (by kernel_rfl) (by kernel_rfl) (by kernel_rfl) (fun _ _ _ h => h) (.inl ⟨by rfl, fun w'' hS => by go_simp⟩) hS0 ?_
      (simp only [List.setIfInBounds_toArray, List.set_cons_zero, List.set_cons_succ])
      refine anyH_take 13 30 (.int .i64 (j : Nat)) rfl rfl (by kernel_rfl) (by kernel_rfl) (by kernel_rfl) (fun _ _ _ h => h) (.inl ⟨by rfl, fun w'' hS => by go_simp⟩) hS0 ?_
      (simp only [List.setIfInBounds_toArray, List.set_cons_zero, List.set_cons_succ])
      refine anyH_take 14 31 (.pointer (some ⟨b, off + j * 128, none⟩)) rfl rfl (by kernel_rfl) (by kernel_rfl) (by kernel_rfl) (fun _ _ _ h => h) (.inl ⟨by rfl, fun w'' hS => by go_simp⟩) hS0 ?_
      (simp only [List.setIfInBounds_toArray, List.set_cons_zero, List.set_cons_succ])
      refine anyH_take 15 32 (.agg (cellsB y2).toArray) rfl rfl (by kernel_rfl) (by kernel_rfl) (by kernel_rfl) (fun _ _ _ h => h) (yieldsIf_load_mid (by rfl) _ _ rfl _ _ rfl _ _ (fun w' f => (HC.out w' f).2) hu rfl hsz2) hS0 ?_
      (simp only [List.setIfInBounds_toArray, List.set_cons_zero, List.set_cons_succ])
      refine anyH_value 5 22 (.slice (some ⟨wr.drew.heap.size, 0, none⟩) 1 1) (wr.drew.alloc (.cells (cellsB y).toArray 31)) (by kernel_rfl) rfl rfl (by rfl) (run_build_op _ rfl HY.out.1 rfl) (hS0.alloc _) ?_
      (simp only [List.setIfInBounds_toArray, List.set_cons_zero, List.set_cons_succ])
      have f1 : Fr (fun _ => False) wr (wr.drew.alloc (.cells (cellsB y).toArray 31)) := ((Fr.refl _ wr).drew).alloc _
      obtain ⟨v6, w6, hrun6, hrow6, hg6, hvb6⟩ := append_one (own_keep HO.out ((Fr.refl (fun _ => False) wr.drew).alloc (.cells (cellsB y).toArray 31)) (fun _ _ q => q)) (Blk.new wr.drew 31 (cellsB y).toArray) HY.out.1 (by rw [HY.out.2.2.2.2]; omega) 38
      have f6 : Fr (fun q => B < q) wr w6 := (f1.mono (G := fun q => B < q) (fun _ _ q => q.elim)).grown hg6 (fun q hq => .inl (HFb.out.2.2 q hq))
      refine anyH_value 6 23 v6 w6 (by kernel_rfl) rfl rfl (by rfl) (run_append_op (.tmp 17) (.tmp 22) rfl rfl rfl hrun6) (f6.mono (fun _ _ q => Nat.le_of_lt q)) ?_
      (simp only [List.setIfInBounds_toArray, List.set_cons_zero, List.set_cons_succ])
      have ge6 : ∀ q, v6.ownBlock = some q → B < q := fun q hq => by
        rcases hvb6 with e | e
        · rw [e] at hq; exact HFb.out.2.2 q hq
        · rw [e] at hq
          injection hq with hq
          have := HFb.out.2.1.lt
          have := f1.size
          omega
      refine anyH_enter 16 33 (f := 14) (args := #[av y, av y2]) (by kernel_rfl) rfl rfl (by rfl) (by go_simp) ?_
      refine (hTn w6).mono ?_
      rintro e w7 ⟨rfl, f7⟩
      have f07 : Fr (fun q => B < q) wr w7 := f6.trans (f7.mono (fun _ _ q => q.elim)) (fun _ _ q => q)
      refine ⟨av t, rfl, f07.mono (fun _ _ q => Nat.le_of_lt q), ?_⟩
      (simp only [List.setIfInBounds_toArray, List.set_cons_zero, List.set_cons_succ])
      have f08 : Fr (fun q => B < q) wr (w7.alloc (.cells (cellsB t).toArray 31)) := f07.alloc _
      refine anyH_value 17 34 (.slice (some ⟨w7.heap.size, 0, none⟩) 1 1) (w7.alloc (.cells (cellsB t).toArray 31)) (by kernel_rfl) rfl rfl (by rfl) (run_build_op _ rfl HY.out.2.2.1 rfl) (f08.mono (fun _ _ q => Nat.le_of_lt q)) ?_
      (simp only [List.setIfInBounds_toArray, List.set_cons_zero, List.set_cons_succ])
      have hrow7 : (w7.alloc (.cells (cellsB t).toArray 31)).ownsRow 0 31 128 v6 (allTo us j ++ [y]).length (cellsB (allTo us j ++ [y]).flatten) := by
        have h1 := own_keep hrow6 (f7.alloc (.cells (cellsB t).toArray 31)) (fun _ _ q => q)
        have e : (allTo us j ++ [y]).length = (allTo us j).length + 1 := by simp
        rw [e]
        exact h1
      obtain ⟨v9, w9, hrun9, hrow9, hg9, hvb9⟩ := append_one hrow7 (Blk.new w7 31 (cellsB t).toArray) HY.out.2.2.1 (by rw [List.length_append, HY.out.2.2.2.2]; simp; omega) 38
      have f9 : Fr (fun q => B < q) wr w9 := f08.grown hg9 (fun q hq => .inl (ge6 q hq))
      have hS9 : Fr (fun q => B ≤ q) wr w9 := f9.mono (fun _ _ q => Nat.le_of_lt q)
      refine anyH_value 18 35 v9 w9 (by kernel_rfl) rfl rfl (by rfl) (run_append_op (.tmp 23) (.tmp 34) rfl rfl rfl hrun9) hS9 ?_
      (simp only [List.setIfInBounds_toArray, List.set_cons_zero, List.set_cons_succ])
      refine anyH_take 19 5 v9 rfl rfl (by kernel_rfl) (by kernel_rfl) (by kernel_rfl) (fun _ _ _ h => h) (.inl ⟨by rfl, fun w'' hS => by go_simp⟩) hS9 ?_
      (simp only [List.setIfInBounds_toArray, List.set_cons_zero, List.set_cons_succ])
      refine wpAnyH_done (by kernel_rfl) ?_ _
      have ge9 : ∀ q, v9.ownBlock = some q → B < q := fun q hq => by
        rcases hvb9 with e | e
        · rw [e] at hq; exact ge6 q hq
        · rw [e] at hq
          injection hq with hq
          have h1 := HFb.out.2.1.lt
          have h2 := f08.size
          omega
      have hrow9' : w9.ownsRow 0 31 128 v9 (2 * k + 1) (cellsB (allTo us k).flatten) := by
        rw [HY.out.2.2.2.1]
        have e : (allTo us j ++ [y]).length + 1 = 2 * k + 1 := by rw [List.length_append, HY.out.2.2.2.2, HK.out]; simp; omega
        rw [← e]
        exact hrow9
      obtain ⟨A9, c9, rfl, _, _⟩ := own_slice hrow9'
      have HE := Lib.hid (And.intro hrow9' (And.intro (HFb.out.1.trans f9 (fun q hq hB => by have := HH.out.2.2.2.2.2.1; omega)) (And.intro (HFb.out.2.1.keep f9 (Nat.lt_irrefl _)) ge9)))
      clear hrow9 hrow9' f9 hS9 ge9 hg9 hvb9 hrun9 hrow7 f08 f07 f7 ge6 hvb6 hg6 hrow6 hrun6 f6 f1 hS0 HC hu hsz hsz2 HO hTn
      go_wp2_with fail
      exact ⟨⟨k, A9, c9, by go_num, rfl, by omega, Lib.hid HE.out.1, Lib.hid ⟨HE.out.2.1, HE.out.2.2.1, HE.out.2.2.2⟩⟩, by simp [intOf]; omega⟩
    · obtain rfl : k = m := by omega
      clear hlt hj
      obtain ⟨L, hL⟩ : ∃ L, L = 2 * j + 1 := ⟨_, rfl⟩
      rw [← hL] at HRw ⊢
      obtain ⟨t, ht⟩ : ∃ t, t = pick.tmod (L : Int) := ⟨_, rfl⟩
      have hq0 : 0 < L := by omega
      have hq1 : L ≤ 20001 := by have := HK.out; omega
      have ht1 : t < (L : Int) := by rw [ht]; exact Int.tmod_lt_of_pos pick (by omega)
      have ht0 : -(L : Int) < t := by rw [ht]; exact Int.lt_tmod_of_pos pick (by omega)
      obtain ⟨p, hp⟩ : ∃ p, p = pickN us.length pick := ⟨_, rfl⟩
      have hLe : 2 * us.length - 1 = L := by have := HH.out.1; have := HK.out; omega
      have hpp : pick % (L : Int) = (p : Int) := by
        rw [hp]
        unfold pickN
        rw [hLe]
        have := Int.emod_nonneg pick (b := (L : Int)) (by omega)
        omega
      have ht2 : (t + (L : Int)).tmod (L : Int) = (p : Int) := by
        rw [Int.tmod_eq_emod_of_nonneg (by omega), ← hpp, Int.add_emod_right, ht]
        have h3 := Int.tmod_eq_emod (a := pick) (b := (L : Int))
        rw [h3]
        split
        · simp
        · rw [Int.sub_emod]
          simp
      have hpL : p < L := by
        have := Int.emod_lt_of_pos pick (b := (L : Int)) (by omega)
        omega
      have hat : (allTo us j)[p]? = some z := by
        rw [HH.out.2.2.2.1, ← hp]
        exact allTo_at us j p (by omega)
      have hallj : ∀ s ∈ allTo us j, s.length = 128 := allTo_all HH.out.2.2.1 j (by have := HH.out.1; have := HK.out; omega)
      have hrow1 : wr.ownsRow 0 31 128 (.slice Aa L c) (allTo us j).length (cellsB (allTo us j).flatten) := by rw [allTo_len, ← hL]; exact HRw.out
      obtain ⟨Ab, cb, hvb, _, _, h3⟩ := secV_row hrow1 hallj
      obtain ⟨b3, off3, hA3, hsec3⟩ := h3 (by rw [allTo_len]; omega)
      injection hvb with e1 e2 e3
      subst e1 e3 hA3
      clear e2
      have HRz : Hid (wr.rangeAt b3 (off3 + p * 128) (cellsB z)) := Lib.hid (hsec3 p z hat).2
      have hte := ht.symm
      have hpi0 : (0 : Int) ≤ (p : Int) := by omega
      have hpi1 : (p : Int) < (L : Int) := by omega
      have HZ := Lib.hid HH.out.2.2.2.2.1
      clear ht hp hpp hLe hpL hat hallj hrow1 h3 hsec3 hL hk
      go_wp2_with (first
        | (refine wpList_load_mid rfl 31 _ rfl b3 (off3 + p * 128) rfl (cellsB z) _ HRz.out Try.underlying31 rfl (by rw [infoSector, cellsB_len, HZ.out]) ?_)
        | (refine wpList_store_mid rfl 31 _ _ rfl B2 0 (cellsB z).toArray rfl rfl (by rw [HB2.out]; exact HFb.out.2.1.there (by simp [cellsB_len, nought_len, HZ.out])) (by rw [infoSector]; simp [cellsB_len, HZ.out]) (all_oneCell_toArray (cellsB_one _)) ?_))
      refine bodyPost_ret (results_cell_row rfl _ _ B2 31 (cellsB z).toArray (0, 0) _ rfl ?_ Try.underlying31 rfl (by rw [infoSector]; simp [cellsB_len, HZ.out])) rfl ?_
      · rw [HB2.out]
        have := HFb.out.2.1.over (o := 0) (m := z) (by rw [nought_len, HZ.out]; omega)
        rw [patch_all (by rw [nought_len, HZ.out])] at this
        exact this
      · refine ⟨rfl, ?_⟩
        rw [HB2.out]
        exact Fr.setCells (.inr (by rw [HH.out.2.2.2.2.2.1]; exact Nat.le_refl _)) HFb.out.1
end Go.Proofs.Ytiobmejnamdneaa
