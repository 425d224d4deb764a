/- may, find. -/
import Derived.Test.YtijdbngjnhhheaaPem
namespace Go.Proofs.Ytijdbngjnhhheaa
open Go.RowKit

set_option maxRecDepth 100000 in
theorem page_lh2 (P : Nat) {z y : Int} {o p : Nat} (hz : z = (o : Int)) (hy : y = (p : Int)) (ho : o ≤ p) (hp : p ≤ 512) (W : World) :
    (Instr.sliceAt 26 (.pointer (some ⟨P, 0, none⟩)) (some (.int .i64 z)) (some (.int .i64 y)) none).run Try.prog W = .ok (.slice (some ⟨P, if 512 = o then 0 else o, none⟩) (p - o) (512 - o)) W := by
  rw [run_sliceAt_array_lh W 26 _ (by kernel_rfl) .i64 .i64 z y (by omega) (by omega) (by rw [pageLen]; omega), pageSz]
  have e : z.toNat = o := by omega
  have e2 : y.toNat = p := by omega
  by_cases h : 512 = o
  · subst h; simp [Result.andThen, slicedAt, pageLen, e, e2]
  · simp [Result.andThen, slicedAt, pageLen, e, e2, addr_add, h]
set_option maxRecDepth 100000 in
theorem rd_lh2 {w : World} {P o p : Nat} {t : TypeId} {l : List UInt8} (h : Blk w P t (cellsB l).toArray) (hl : l.length = 512) (ho : o ≤ p) (hp : p ≤ 512) : Rd w (some ⟨P, if 512 = o then 0 else o, none⟩) (p - o) (sub l o (p - o)) := by
  by_cases hop : 512 = o
  · have e : p - o = 0 := by omega
    rw [e]
    simp only [sub, List.take_zero]
    exact Rd.nil _ _
  · rw [if_neg hop]
    exact blk_rd h (by omega)
section
variable {w : World} {P : Nat} {x : PD}
set_option maxRecDepth 100000 in
/-- What the last line of may asks. -/
theorem may_last (h : PW w P x) (k : x.Ok) {en se : Nat} (he : en = 512 - tot x.s) (hs : se = 12 + 4 * x.s.length) {w' : World} (f : Fr (fun _ => False) w w') :
    (Calls Try.prog 63 #[.pointer (some ⟨P, 0, none⟩)] w' fun e w'' => e = .returned (.int .i64 en) ∧ w' = w'') ∧
    (Calls Try.prog 64 #[.slice (some ⟨P, 1, none⟩) 1 511] w' fun e w'' => e = .returned (.bool true) ∧ Fr (fun _ => False) w' w'') ∧
    (Calls Try.prog 64 #[.slice (some ⟨P, 6, none⟩) 2 506] w' fun e w'' => e = .returned (.bool true) ∧ Fr (fun _ => False) w' w'') ∧
    (Calls Try.prog 60 #[.pointer (some ⟨P, 0, none⟩)] w' fun e w'' => e = .returned (.int .i64 se) ∧ w' = w'') ∧
    (Calls Try.prog 64 #[.slice (some ⟨P, if 512 = se then 0 else se, none⟩) (en - se) (512 - se)] w' fun e w'' => e = .returned (.bool true) ∧ Fr (fun _ => False) w' w'') := by
  have h' : PW w' P x := h.new f
  have hl := k.len
  have hz := k.sz
  refine ⟨by rw [he]; exact beginOf_any h' k, ?_, ?_, by rw [hs]; exact slotsEnd_any h' k, ?_⟩
  · refine noughts_any ?_ (by omega)
    have := blk_rd (o := 1) (n := 1) h' (by omega)
    rwa [bytes_z1] at this
  · refine noughts_any ?_ (by omega)
    have := blk_rd (o := 6) (n := 2) h' (by omega)
    rwa [bytes_z2] at this
  · refine noughts_any ?_ (by omega)
    have := rd_lh2 (o := se) (p := en) h' hl (by omega) (by omega)
    have e : en - se = 500 - 4 * x.s.length - tot x.s := by omega
    rw [e, hs, bytes_gap, ← hs] at this
    rwa [e]
set_option maxRecDepth 100000 in
set_option maxHeartbeats 4000000 in
theorem may_any (h : PW w P x) (k : x.Ok) : Calls Try.prog 29 #[.pointer (some ⟨P, 0, none⟩)] w fun e w' => e = .returned (.bool true) ∧ Fr (fun _ => False) w w' := by
  have HK := Lib.hid (And.intro h k)
  obtain ⟨m, hm⟩ : ∃ m, m = x.s.length := ⟨_, rfl⟩
  obtain ⟨se, hse⟩ : ∃ se, se = 12 + 4 * x.s.length := ⟨_, rfl⟩
  have hm9 : m ≤ 125 := by have := k.many; omega
  have hse9 : se ≤ 512 := by have := k.many; omega
  have C1 := kindOf_any h k
  have C2 : ∀ w, Calls Try.prog 31 #[.int .i64 x.kind] w fun e w' => e = .returned (.bool true) ∧ w = w' := fun w => mayKind_any w k.k
  have C3 := nextOf_any h k
  have C4 : ∀ w, Calls Try.prog 39 #[.int .i64 x.next] w fun e w' => e = .returned (.bool true) ∧ w = w' := fun w => mayNext_any w k.n
  have C5 := slotsEnd_any h k
  have C6 := manyOf_any h k
  rw [← hse] at C5
  rw [← hm] at C6
  have HMm := Lib.hid (And.intro hm hse)
  have H2 := Lib.hid C2
  have H4 := Lib.hid C4
  have hb1 : decide (512 < se) = false := by simp; omega
  clear h k hm hse C2 C4
  go_enter Try.func29, Try.ntmps29
  go_wp2_with fail
  refine C1.mono ?_
  rintro e w' ⟨rfl, rfl⟩
  have C2 := H2.out w
  clear C1
  go_wp2_with fail
  refine C2.mono ?_
  rintro e w' ⟨rfl, rfl⟩
  clear C2 H2
  go_wp2_with fail
  refine C3.mono ?_
  rintro e w' ⟨rfl, rfl⟩
  have C4 := H4.out w
  clear C3 H4
  go_wp2_with fail
  refine C4.mono ?_
  rintro e w' ⟨rfl, rfl⟩
  clear C4
  go_wp2_with fail
  refine C5.mono ?_
  rintro e w' ⟨rfl, rfl⟩
  clear C5
  go_wp2_with fail
  refine C6.mono ?_
  rintro e w' ⟨rfl, rfl⟩
  have HF0 := Lib.hid (Fr.refl (fun _ => False) w)
  have key : Hid (∀ (wq : World), Fr (fun _ => False) w wq → Calls Try.prog 33 #[.pointer (some ⟨P, 0, none⟩)] wq fun e w' => e = .returned (.int .i64 m) ∧ wq = w') := Lib.hid fun wq f => by
    have := manyOf_any (HK.out.1.new f) HK.out.2
    rwa [← HMm.out.1] at this
  clear C6
  by_cases h0 : m = 0
  · have hc : ((m : Int) - 1) = -1 := by omega
    have HFz := HF0
    clear HF0 h0
    go_wp2_with fail
    refine (key.out _ HFz.out).mono ?_
    rintro e w' ⟨rfl, rfl⟩
    clear key hc
    go_wp2_with fail
    go_loopw [4, 35] (fun u i wr => ∃ j : Nat, i = .int .i64 j ∧ j ≤ m ∧ u = .int .i64 (512 - tot (x.s.take j) : Nat) ∧ Hid (Fr (fun _ => False) w wr)) (fun _ i _ => m - (intOf i).toNat)
    case atStart => exact ⟨0, rfl, Nat.zero_le _, by simp [tot], HFz⟩
    case round =>
      obtain ⟨j, rfl, hj, rfl, HF⟩ := hrel
      clear HFz
      by_cases hlt : j < m
      · obtain ⟨o, ho⟩ : ∃ o, x.s[j]? = some o := ⟨_, List.getElem?_eq_getElem (by have := HMm.out.1; omega)⟩
        have HS := spanOf_any (HK.out.1.new HF.out) HK.out.2 (i := j) (by have := HMm.out.1; omega)
        have HE : Hid (∀ w, Calls Try.prog 62 #[spanV (spanOf x.s j)] w fun e w' => e = .returned (.bool o.isNone) ∧ Fr (fun _ => False) w w') := Lib.hid fun w => slot_empty HK.out.2 ho w
        have hsn := tot_snoc ho
        have htl := tot_take_le x.s (j + 1)
        have hsz := HK.out.2.sz
        obtain ⟨en, hen⟩ : ∃ en, en = 512 - tot (x.s.take j) := ⟨_, rfl⟩
        rw [← hen]
        have hen9 : en ≤ 512 := by omega
        cases o with
        | none =>
          have hen2 : 512 - tot (x.s.take (j + 1)) = en := by rw [hen, hsn]; rfl
          have HO := Lib.hid hen2
          have hsp : spanV (spanOf x.s j) = .agg #[.int .i64 (0 : Nat), .int .i64 (0 : Nat)] := by simp [spanOf, ho, spanV]
          rw [hsp] at HS HE
          clear ho hsn htl hsz hen hen2 hsp
          go_wp2_with fail
          refine HS.mono ?_
          rintro e w1 ⟨rfl, f1⟩
          have HF1 := Lib.hid (HF.out.trans f1 (fun _ _ q => q))
          have HE1 := Lib.hid (HE.out (w1.alloc (.cells #[.int .i64 (0 : Nat), .int .i64 (0 : Nat)] 90)))
          have HF1a := Lib.hid (HF1.out.alloc (.cells #[.int .i64 (0 : Nat), .int .i64 (0 : Nat)] 90))
          clear HS f1 HE
          go_wp2_with fail
          refine HE1.out.mono ?_
          rintro e w2 ⟨rfl, f2⟩
          have HF2 := Lib.hid (HF1a.out.trans f2 (fun _ _ q => q))
          clear HE1 f2 HF1 HF1a
          go_wp2_with fail
          exact ⟨⟨j + 1, by go_num, by omega, by rw [HO.out], HF2⟩, by simp [intOf]; omega⟩
        | some b =>
          obtain ⟨o, hoo⟩ : ∃ o, o = 512 - tot (x.s.take (j + 1)) := ⟨_, rfl⟩
          obtain ⟨n, hn⟩ : ∃ n, n = b.length := ⟨_, rfl⟩
          simp only [rl, Option.getD_some] at hsn
          have hsp : spanV (spanOf x.s j) = .agg #[.int .i64 o, .int .i64 n] := by simp [spanOf, ho, spanV, hoo, hn]
          have hn400 : n ≤ 400 := by rw [hn]; exact HK.out.2.rs b (List.mem_of_getElem? ho)
          have hon : o + n = en := by omega
          have hoe : se ≤ o := by have := HMm.out.2; omega
          have HO := Lib.hid hoo
          have hq1 : (((o : Int) + (n : Int)) != (en : Int)) = false := by simp; omega
          have hq2 : decide (o < se) = false := by simp; omega
          have hq3 : decide (400 < n) = false := by simp; omega
          rw [hsp] at HS HE
          have hop : o ≤ 512 := by omega
          have hn4 : (n : Int) ≤ 400 := by omega
          have hwr : IntKind.i64.wrap ((o : Int) + (n : Int)) = (o : Int) + (n : Int) := by
            simp [IntKind.wrap, IntKind.signed, IntKind.bits]
            omega
          clear ho hsn htl hsz hen hsp hoo hn hon
          go_wp2_with fail
          refine HS.mono ?_
          rintro e w1 ⟨rfl, f1⟩
          have HF1 := Lib.hid (HF.out.trans f1 (fun _ _ q => q))
          obtain ⟨sb, hsb⟩ : ∃ sb, sb = w1.heap.size := ⟨_, rfl⟩
          have hb1 := Blk.new w1 90 #[.int .i64 o, .int .i64 n]
          have HE1 := Lib.hid (HE.out (w1.alloc (.cells #[.int .i64 o, .int .i64 n] 90)))
          have HF1a := Lib.hid (HF1.out.alloc (.cells #[.int .i64 o, .int .i64 n] 90))
          rw [← hsb] at hb1
          have HB1 := Lib.hid hb1
          have HSb := Lib.hid hsb
          clear HS f1 HE hb1 hsb
          go_wp2_with fail
          refine HE1.out.mono ?_
          rintro e w2 ⟨rfl, f2⟩
          have hb2 := HB1.out.keep f2 (fun q => q)
          have HF2 := Lib.hid (HF1a.out.trans f2 (fun _ _ q => q))
          have HC : Hid (∀ w', Fr (fun _ => False) w2 w' → (w'.cell? ⟨sb, 0, none⟩ = some (.int .i64 o) ∧ w'.cell? ⟨sb, 1, none⟩ = some (.int .i64 n)) ∧ Calls Try.prog 60 #[.pointer (some ⟨P, 0, none⟩)] w' fun e w'' => e = .returned (.int .i64 se) ∧ w' = w'') := Lib.hid fun w' f => by
            have hb3 := hb2.keep f (fun q => q)
            refine ⟨⟨hb3.cell 0, hb3.cell 1⟩, ?_⟩
            have := slotsEnd_any (HK.out.1.new (HF2.out.trans f (fun _ _ q => q))) HK.out.2
            rwa [← HMm.out.2] at this
          clear HE1 f2 HF1 HF1a hb2 HB1
          rw [← HSb.out]
          go_upto_region 12 with (fail)
          refine wp_region_held_drew (S := fun w' => Fr (fun _ => False) w2 w') (by kernel_rfl) ((Fr.refl _ _).drew) (fun hS0 => ?_)
          refine anyH_take 0 43 (.pointer (some ⟨sb, 0, none⟩)) rfl rfl (by kernel_rfl) (by kernel_rfl) (by kernel_rfl) (fun _ _ _ h => h) (.inl ⟨by rfl, fun w'' hS => by go_simp⟩) hS0 ?_
          (simp only [List.setIfInBounds_toArray, List.set_cons_zero, List.set_cons_succ])
          refine anyH_take 1 44 (.int .i64 o) rfl rfl (by kernel_rfl) (by kernel_rfl) (by kernel_rfl) (fun _ _ _ h => h) (.inl ⟨by rfl, fun w'' hS => by have q0 := (HC.out w'' hS).1.1; go_simp⟩) hS0 ?_
          (simp only [List.setIfInBounds_toArray, List.set_cons_zero, List.set_cons_succ])
          refine anyH_take 2 45 (.pointer (some ⟨sb, 1, none⟩)) rfl rfl (by kernel_rfl) (by kernel_rfl) (by kernel_rfl) (fun _ _ _ h => h) (.inl ⟨by rfl, fun w'' hS => by go_simp⟩) hS0 ?_
          (simp only [List.setIfInBounds_toArray, List.set_cons_zero, List.set_cons_succ])
          refine anyH_take 3 46 (.int .i64 n) rfl rfl (by kernel_rfl) (by kernel_rfl) (by kernel_rfl) (fun _ _ _ h => h) (.inl ⟨by rfl, fun w'' hS => by have q0 := (HC.out w'' hS).1.2; go_simp⟩) hS0 ?_
          (simp only [List.setIfInBounds_toArray, List.set_cons_zero, List.set_cons_succ])
          refine anyH_take 4 47 (.int .i64 (o + n : Int)) rfl rfl (by kernel_rfl) (by kernel_rfl) (by kernel_rfl) (fun _ _ _ h => h) (.inl ⟨by rfl, fun w'' hS => by go_simp⟩) hS0 ?_
          (simp only [List.setIfInBounds_toArray, List.set_cons_zero, List.set_cons_succ])
          refine anyH_take 5 48 (.int .i64 en) rfl rfl (by kernel_rfl) (by kernel_rfl) (by kernel_rfl) (fun _ _ _ h => h) (.inl ⟨by rfl, fun w'' hS => by go_simp⟩) hS0 ?_
          (simp only [List.setIfInBounds_toArray, List.set_cons_zero, List.set_cons_succ])
          refine anyH_take 6 49 (.bool false) rfl rfl (by kernel_rfl) (by kernel_rfl) (by kernel_rfl) (fun _ _ _ h => h) (.inl ⟨by rfl, fun w'' hS => by go_simp⟩) hS0 ?_
          (simp only [List.setIfInBounds_toArray, List.set_cons_zero, List.set_cons_succ])
          refine anyH_take 7 50 (.bool false) rfl rfl (by kernel_rfl) (by kernel_rfl) (by kernel_rfl) (fun _ _ _ h => h) (.inl ⟨by rfl, fun w'' hS => by go_simp⟩) hS0 ?_
          (simp only [List.setIfInBounds_toArray, List.set_cons_zero, List.set_cons_succ])
          refine anyH_take 8 51 (.pointer (some ⟨sb, 0, none⟩)) rfl rfl (by kernel_rfl) (by kernel_rfl) (by kernel_rfl) (fun _ _ _ h => h) (.inl ⟨by rfl, fun w'' hS => by go_simp⟩) hS0 ?_
          (simp only [List.setIfInBounds_toArray, List.set_cons_zero, List.set_cons_succ])
          refine anyH_take 9 52 (.int .i64 o) rfl rfl (by kernel_rfl) (by kernel_rfl) (by kernel_rfl) (fun _ _ _ h => h) (.inl ⟨by rfl, fun w'' hS => by have q0 := (HC.out w'' hS).1.1; go_simp⟩) hS0 ?_
          (simp only [List.setIfInBounds_toArray, List.set_cons_zero, List.set_cons_succ])
          refine anyH_take 10 53 (.pointer (some ⟨P, 0, none⟩)) rfl rfl (by kernel_rfl) (by kernel_rfl) (by kernel_rfl) (fun _ _ _ h => h) (.inl ⟨by rfl, fun w'' hS => by go_simp⟩) hS0 ?_
          (simp only [List.setIfInBounds_toArray, List.set_cons_zero, List.set_cons_succ])
          refine anyH_one 11 54 (.int .i64 se) (by kernel_rfl) (tame_call 54 rfl rfl (by rfl) (fun w'' hS => by go_simp) (fun w'' hS => ((HC.out w'' hS).2.mono fun e w3 he => ⟨he.1, he.2 ▸ hS⟩))) hS0 (fun wl1 hS0 => ?_)
          (simp only [List.setIfInBounds_toArray, List.set_cons_zero, List.set_cons_succ])
          refine anyH_take 12 55 (.bool false) rfl rfl (by kernel_rfl) (by kernel_rfl) (by kernel_rfl) (fun _ _ _ h => h) (.inl ⟨by rfl, fun w'' hS => by go_simp⟩) hS0 ?_
          (simp only [List.setIfInBounds_toArray, List.set_cons_zero, List.set_cons_succ])
          refine anyH_take 13 56 (.bool false) rfl rfl (by kernel_rfl) (by kernel_rfl) (by kernel_rfl) (fun _ _ _ h => h) (.inl ⟨by rfl, fun w'' hS => by go_simp⟩) hS0 ?_
          (simp only [List.setIfInBounds_toArray, List.set_cons_zero, List.set_cons_succ])
          refine anyH_take 14 57 (.bool false) rfl rfl (by kernel_rfl) (by kernel_rfl) (by kernel_rfl) (fun _ _ _ h => h) (.inl ⟨by rfl, fun w'' hS => by go_simp⟩) hS0 ?_
          (simp only [List.setIfInBounds_toArray, List.set_cons_zero, List.set_cons_succ])
          refine anyH_take 15 58 (.pointer (some ⟨sb, 1, none⟩)) rfl rfl (by kernel_rfl) (by kernel_rfl) (by kernel_rfl) (fun _ _ _ h => h) (.inl ⟨by rfl, fun w'' hS => by go_simp⟩) hS0 ?_
          (simp only [List.setIfInBounds_toArray, List.set_cons_zero, List.set_cons_succ])
          refine anyH_take 16 59 (.int .i64 n) rfl rfl (by kernel_rfl) (by kernel_rfl) (by kernel_rfl) (fun _ _ _ h => h) (.inl ⟨by rfl, fun w'' hS => by have q0 := (HC.out w'' hS).1.2; go_simp⟩) hS0 ?_
          (simp only [List.setIfInBounds_toArray, List.set_cons_zero, List.set_cons_succ])
          refine anyH_take 17 60 (.bool false) rfl rfl (by kernel_rfl) (by kernel_rfl) (by kernel_rfl) (fun _ _ _ h => h) (.inl ⟨by rfl, fun w'' hS => by go_simp⟩) hS0 ?_
          (simp only [List.setIfInBounds_toArray, List.set_cons_zero, List.set_cons_succ])
          refine anyH_take 18 61 (.bool false) rfl rfl (by kernel_rfl) (by kernel_rfl) (by kernel_rfl) (fun _ _ _ h => h) (.inl ⟨by rfl, fun w'' hS => by go_simp⟩) hS0 ?_
          (simp only [List.setIfInBounds_toArray, List.set_cons_zero, List.set_cons_succ])
          refine wpAnyH_done (by kernel_rfl) ?_ _
          have c0 := (HC.out _ hS0).1.1
          clear HC
          go_wp2_with fail
          refine ⟨⟨j + 1, by go_num, by omega, ?_, Lib.hid (HF2.out.trans hS0 (fun _ _ q => q))⟩, by simp [intOf]; omega⟩
          rw [HO.out]
      · obtain rfl : j = m := by omega
        obtain ⟨en, hen⟩ : ∃ en, en = 512 - tot x.s := ⟨_, rfl⟩
        have het : 512 - tot (x.s.take j) = en := by rw [hen, List.take_of_length_le (by have := HMm.out.1; omega)]
        have hse' : se ≤ en := by have := HMm.out.2; have := HK.out.2.sz; omega
        have hen9 : en ≤ 512 := by omega
        rw [het]
        have HM : Hid (∀ w', Fr (fun _ => False) w w' → _) := Lib.hid fun w' f => may_last HK.out.1 HK.out.2 hen HMm.out.2 f
        have hs1 : ∀ W, (Instr.sliceAt 26 (.pointer (some ⟨P, 0, none⟩)) (some (.int .i64 1)) (some (.int .i64 2)) none).run Try.prog W = .ok (.slice (some ⟨P, 1, none⟩) 1 511) W := fun W => page_lh2 P (o := 1) (p := 2) rfl rfl (by omega) (by omega) W
        have hs2 : ∀ W, (Instr.sliceAt 26 (.pointer (some ⟨P, 0, none⟩)) (some (.int .i64 6)) (some (.int .i64 8)) none).run Try.prog W = .ok (.slice (some ⟨P, 6, none⟩) 2 506) W := fun W => page_lh2 P (o := 6) (p := 8) rfl rfl (by omega) (by omega) W
        have hs3 : ∀ W, (Instr.sliceAt 26 (.pointer (some ⟨P, 0, none⟩)) (some (.int .i64 se)) (some (.int .i64 en)) none).run Try.prog W = .ok (.slice (some ⟨P, if 512 = se then 0 else se, none⟩) (en - se) (512 - se)) W := fun W => page_lh2 P rfl rfl hse' hen9 W
        generalize (some ⟨P, if 512 = se then 0 else se, none⟩ : Option Addr) = SA at *
        generalize 512 - se = SC at *
        have hee : ((en : Int) == (en : Int)) = true := by simp
        clear hen het hlt hj
        go_upto_region 16 with (fail)
        refine wp_region_held_drew (S := fun w' => Fr (fun _ => False) w w') (by kernel_rfl) (HF.out.drew) (fun hS0 => ?_)
        refine anyH_take 0 65 (.int .i64 en) rfl rfl (by kernel_rfl) (by kernel_rfl) (by kernel_rfl) (fun _ _ _ h => h) (.inl ⟨by rfl, fun w'' hS => by go_simp⟩) hS0 ?_
        (simp only [List.setIfInBounds_toArray, List.set_cons_zero, List.set_cons_succ])
        refine anyH_take 1 66 (.pointer (some ⟨P, 0, none⟩)) rfl rfl (by kernel_rfl) (by kernel_rfl) (by kernel_rfl) (fun _ _ _ h => h) (.inl ⟨by rfl, fun w'' hS => by go_simp⟩) hS0 ?_
        (simp only [List.setIfInBounds_toArray, List.set_cons_zero, List.set_cons_succ])
        refine anyH_one 2 67 (.int .i64 en) (by kernel_rfl) (tame_call 67 rfl rfl (by rfl) (fun w'' hS => by go_simp) (fun w'' hS => ((HM.out w'' hS).1.mono fun e w3 he => ⟨he.1, he.2 ▸ hS⟩))) hS0 (fun wl1 hS0 => ?_)
        (simp only [List.setIfInBounds_toArray, List.set_cons_zero, List.set_cons_succ])
        refine anyH_take 3 68 (.bool true) rfl rfl (by kernel_rfl) (by kernel_rfl) (by kernel_rfl) (fun _ _ _ h => h) (.inl ⟨by rfl, fun w'' hS => by go_simp⟩) hS0 ?_
        (simp only [List.setIfInBounds_toArray, List.set_cons_zero, List.set_cons_succ])
        refine anyH_take 4 69 (.bool true) rfl rfl (by kernel_rfl) (by kernel_rfl) (by kernel_rfl) (fun _ _ _ h => h) (.inl ⟨by rfl, fun w'' hS => by go_simp⟩) hS0 ?_
        (simp only [List.setIfInBounds_toArray, List.set_cons_zero, List.set_cons_succ])
        refine anyH_take 5 70 (.pointer (some ⟨P, 0, none⟩)) rfl rfl (by kernel_rfl) (by kernel_rfl) (by kernel_rfl) (fun _ _ _ h => h) (.inl ⟨by rfl, fun w'' hS => by go_simp⟩) hS0 ?_
        (simp only [List.setIfInBounds_toArray, List.set_cons_zero, List.set_cons_succ])
        refine anyH_take 6 71 (.pointer (some ⟨P, 0, none⟩)) rfl rfl (by kernel_rfl) (by kernel_rfl) (by kernel_rfl) (fun _ _ _ h => h) (.inl ⟨by rfl, fun w'' hS => by go_simp⟩) hS0 ?_
        (simp only [List.setIfInBounds_toArray, List.set_cons_zero, List.set_cons_succ])
        refine anyH_take 7 72 (.slice (some ⟨P, 1, none⟩) 1 511) rfl rfl (by kernel_rfl) (by kernel_rfl) (by kernel_rfl) (fun _ _ _ h => h) (.inl ⟨by rfl, fun w'' hS => by have q0 := hs1 w''; go_simp⟩) hS0 ?_
        (simp only [List.setIfInBounds_toArray, List.set_cons_zero, List.set_cons_succ])
        refine anyH_one 8 73 (.bool true) (by kernel_rfl) (tame_call 73 rfl rfl (by rfl) (fun w'' hS => by go_simp) (fun w'' hS => ((HM.out w'' hS).2.1.mono fun e w3 he => ⟨he.1, hS.trans he.2 (fun _ _ q => q)⟩))) hS0 (fun wl2 hS0 => ?_)
        (simp only [List.setIfInBounds_toArray, List.set_cons_zero, List.set_cons_succ])
        refine anyH_take 9 74 (.bool true) rfl rfl (by kernel_rfl) (by kernel_rfl) (by kernel_rfl) (fun _ _ _ h => h) (.inl ⟨by rfl, fun w'' hS => by go_simp⟩) hS0 ?_
        (simp only [List.setIfInBounds_toArray, List.set_cons_zero, List.set_cons_succ])
        refine anyH_take 10 75 (.bool true) rfl rfl (by kernel_rfl) (by kernel_rfl) (by kernel_rfl) (fun _ _ _ h => h) (.inl ⟨by rfl, fun w'' hS => by go_simp⟩) hS0 ?_
        (simp only [List.setIfInBounds_toArray, List.set_cons_zero, List.set_cons_succ])
        refine anyH_take 11 76 (.pointer (some ⟨P, 0, none⟩)) rfl rfl (by kernel_rfl) (by kernel_rfl) (by kernel_rfl) (fun _ _ _ h => h) (.inl ⟨by rfl, fun w'' hS => by go_simp⟩) hS0 ?_
        (simp only [List.setIfInBounds_toArray, List.set_cons_zero, List.set_cons_succ])
        refine anyH_take 12 77 (.pointer (some ⟨P, 0, none⟩)) rfl rfl (by kernel_rfl) (by kernel_rfl) (by kernel_rfl) (fun _ _ _ h => h) (.inl ⟨by rfl, fun w'' hS => by go_simp⟩) hS0 ?_
        (simp only [List.setIfInBounds_toArray, List.set_cons_zero, List.set_cons_succ])
        refine anyH_take 13 78 (.slice (some ⟨P, 6, none⟩) 2 506) rfl rfl (by kernel_rfl) (by kernel_rfl) (by kernel_rfl) (fun _ _ _ h => h) (.inl ⟨by rfl, fun w'' hS => by have q0 := hs2 w''; go_simp⟩) hS0 ?_
        (simp only [List.setIfInBounds_toArray, List.set_cons_zero, List.set_cons_succ])
        refine anyH_one 14 79 (.bool true) (by kernel_rfl) (tame_call 79 rfl rfl (by rfl) (fun w'' hS => by go_simp) (fun w'' hS => ((HM.out w'' hS).2.2.1.mono fun e w3 he => ⟨he.1, hS.trans he.2 (fun _ _ q => q)⟩))) hS0 (fun wl3 hS0 => ?_)
        (simp only [List.setIfInBounds_toArray, List.set_cons_zero, List.set_cons_succ])
        refine anyH_take 15 80 (.bool true) rfl rfl (by kernel_rfl) (by kernel_rfl) (by kernel_rfl) (fun _ _ _ h => h) (.inl ⟨by rfl, fun w'' hS => by go_simp⟩) hS0 ?_
        (simp only [List.setIfInBounds_toArray, List.set_cons_zero, List.set_cons_succ])
        refine anyH_take 16 81 (.bool true) rfl rfl (by kernel_rfl) (by kernel_rfl) (by kernel_rfl) (fun _ _ _ h => h) (.inl ⟨by rfl, fun w'' hS => by go_simp⟩) hS0 ?_
        (simp only [List.setIfInBounds_toArray, List.set_cons_zero, List.set_cons_succ])
        refine anyH_take 17 82 (.pointer (some ⟨P, 0, none⟩)) rfl rfl (by kernel_rfl) (by kernel_rfl) (by kernel_rfl) (fun _ _ _ h => h) (.inl ⟨by rfl, fun w'' hS => by go_simp⟩) hS0 ?_
        (simp only [List.setIfInBounds_toArray, List.set_cons_zero, List.set_cons_succ])
        refine anyH_take 18 83 (.pointer (some ⟨P, 0, none⟩)) rfl rfl (by kernel_rfl) (by kernel_rfl) (by kernel_rfl) (fun _ _ _ h => h) (.inl ⟨by rfl, fun w'' hS => by go_simp⟩) hS0 ?_
        (simp only [List.setIfInBounds_toArray, List.set_cons_zero, List.set_cons_succ])
        refine anyH_take 19 84 (.pointer (some ⟨P, 0, none⟩)) rfl rfl (by kernel_rfl) (by kernel_rfl) (by kernel_rfl) (fun _ _ _ h => h) (.inl ⟨by rfl, fun w'' hS => by go_simp⟩) hS0 ?_
        (simp only [List.setIfInBounds_toArray, List.set_cons_zero, List.set_cons_succ])
        refine anyH_take 21 86 (.int .i64 en) rfl rfl (by kernel_rfl) (by kernel_rfl) (by kernel_rfl) (fun _ _ _ h => h) (.inl ⟨by rfl, fun w'' hS => by go_simp⟩) hS0 ?_
        (simp only [List.setIfInBounds_toArray, List.set_cons_zero, List.set_cons_succ])
        refine anyH_one 20 85 (.int .i64 se) (by kernel_rfl) (tame_call 85 rfl rfl (by rfl) (fun w'' hS => by go_simp) (fun w'' hS => ((HM.out w'' hS).2.2.2.1.mono fun e w3 he => ⟨he.1, he.2 ▸ hS⟩))) hS0 (fun wl4 hS0 => ?_)
        (simp only [List.setIfInBounds_toArray, List.set_cons_zero, List.set_cons_succ])
        refine anyH_take 22 87 (.slice SA (en - se) SC) rfl rfl (by kernel_rfl) (by kernel_rfl) (by kernel_rfl) (fun _ _ _ h => h) (.inl ⟨by rfl, fun w'' hS => by have q0 := hs3 w''; go_simp⟩) hS0 ?_
        (simp only [List.setIfInBounds_toArray, List.set_cons_zero, List.set_cons_succ])
        refine anyH_one 23 88 (.bool true) (by kernel_rfl) (tame_call 88 rfl rfl (by rfl) (fun w'' hS => by go_simp) (fun w'' hS => ((HM.out w'' hS).2.2.2.2.mono fun e w3 he => ⟨he.1, hS.trans he.2 (fun _ _ q => q)⟩))) hS0 (fun wl5 hS0 => ?_)
        (simp only [List.setIfInBounds_toArray, List.set_cons_zero, List.set_cons_succ])
        refine anyH_take 24 89 (.bool true) rfl rfl (by kernel_rfl) (by kernel_rfl) (by kernel_rfl) (fun _ _ _ h => h) (.inl ⟨by rfl, fun w'' hS => by go_simp⟩) hS0 ?_
        (simp only [List.setIfInBounds_toArray, List.set_cons_zero, List.set_cons_succ])
        refine anyH_take 25 2 (.bool true) rfl rfl (by kernel_rfl) (by kernel_rfl) (by kernel_rfl) (fun _ _ _ h => h) (.inl ⟨by rfl, fun w'' hS => by go_simp⟩) hS0 ?_
        (simp only [List.setIfInBounds_toArray, List.set_cons_zero, List.set_cons_succ])
        refine wpAnyH_done (by kernel_rfl) ?_ _
        go_wp2_with fail
        go_ret
        exact ⟨rfl, hS0⟩
  · obtain ⟨l, hl⟩ : ∃ l, m = l + 1 := ⟨m - 1, by omega⟩
    obtain ⟨b0, hb0⟩ := HK.out.2.ls l (HMm.out.1.symm.trans hl)
    have HS := spanOf_any HK.out.1 HK.out.2 (i := l) (by have := HMm.out.1; omega)
    have HE := Lib.hid fun w => slot_empty HK.out.2 hb0 w
    generalize spanV (spanOf x.s l) = sv at *
    have hc1 : ((m : Int) - 1) = (l : Int) := by omega
    clear hb0 hl
    go_wp2_with fail
    refine HS.mono ?_
    rintro e w1 ⟨rfl, f1⟩
    have HE1 := HE.out w1
    have HF1 := Lib.hid f1
    clear HS f1 HE
    go_wp2_with fail
    refine HE1.mono ?_
    rintro e w2 ⟨rfl, f2⟩
    have HFz := Lib.hid (HF1.out.trans f2 (fun _ _ q => q))
    clear HE1 f2 HF1 HF0 h0
    go_wp2_with fail
    refine (key.out _ HFz.out).mono ?_
    rintro e w' ⟨rfl, rfl⟩
    clear key hc1
    go_wp2_with fail
    go_loopw [4, 35] (fun u i wr => ∃ j : Nat, i = .int .i64 j ∧ j ≤ m ∧ u = .int .i64 (512 - tot (x.s.take j) : Nat) ∧ Hid (Fr (fun _ => False) w wr)) (fun _ i _ => m - (intOf i).toNat)
    case atStart => exact ⟨0, rfl, Nat.zero_le _, by simp [tot], HFz⟩
    case round =>
      obtain ⟨j, rfl, hj, rfl, HF⟩ := hrel
      clear HFz
      by_cases hlt : j < m
      · obtain ⟨o, ho⟩ : ∃ o, x.s[j]? = some o := ⟨_, List.getElem?_eq_getElem (by have := HMm.out.1; omega)⟩
        have HS := spanOf_any (HK.out.1.new HF.out) HK.out.2 (i := j) (by have := HMm.out.1; omega)
        have HE : Hid (∀ w, Calls Try.prog 62 #[spanV (spanOf x.s j)] w fun e w' => e = .returned (.bool o.isNone) ∧ Fr (fun _ => False) w w') := Lib.hid fun w => slot_empty HK.out.2 ho w
        have hsn := tot_snoc ho
        have htl := tot_take_le x.s (j + 1)
        have hsz := HK.out.2.sz
        obtain ⟨en, hen⟩ : ∃ en, en = 512 - tot (x.s.take j) := ⟨_, rfl⟩
        rw [← hen]
        have hen9 : en ≤ 512 := by omega
        cases o with
        | none =>
          have hen2 : 512 - tot (x.s.take (j + 1)) = en := by rw [hen, hsn]; rfl
          have HO := Lib.hid hen2
          have hsp : spanV (spanOf x.s j) = .agg #[.int .i64 (0 : Nat), .int .i64 (0 : Nat)] := by simp [spanOf, ho, spanV]
          rw [hsp] at HS HE
          clear ho hsn htl hsz hen hen2 hsp
          go_wp2_with fail
          refine HS.mono ?_
          rintro e w1 ⟨rfl, f1⟩
          have HF1 := Lib.hid (HF.out.trans f1 (fun _ _ q => q))
          have HE1 := Lib.hid (HE.out (w1.alloc (.cells #[.int .i64 (0 : Nat), .int .i64 (0 : Nat)] 90)))
          have HF1a := Lib.hid (HF1.out.alloc (.cells #[.int .i64 (0 : Nat), .int .i64 (0 : Nat)] 90))
          clear HS f1 HE
          go_wp2_with fail
          refine HE1.out.mono ?_
          rintro e w2 ⟨rfl, f2⟩
          have HF2 := Lib.hid (HF1a.out.trans f2 (fun _ _ q => q))
          clear HE1 f2 HF1 HF1a
          go_wp2_with fail
          exact ⟨⟨j + 1, by go_num, by omega, by rw [HO.out], HF2⟩, by simp [intOf]; omega⟩
        | some b =>
          obtain ⟨o, hoo⟩ : ∃ o, o = 512 - tot (x.s.take (j + 1)) := ⟨_, rfl⟩
          obtain ⟨n, hn⟩ : ∃ n, n = b.length := ⟨_, rfl⟩
          simp only [rl, Option.getD_some] at hsn
          have hsp : spanV (spanOf x.s j) = .agg #[.int .i64 o, .int .i64 n] := by simp [spanOf, ho, spanV, hoo, hn]
          have hn400 : n ≤ 400 := by rw [hn]; exact HK.out.2.rs b (List.mem_of_getElem? ho)
          have hon : o + n = en := by omega
          have hoe : se ≤ o := by have := HMm.out.2; omega
          have HO := Lib.hid hoo
          have hq1 : (((o : Int) + (n : Int)) != (en : Int)) = false := by simp; omega
          have hq2 : decide (o < se) = false := by simp; omega
          have hq3 : decide (400 < n) = false := by simp; omega
          rw [hsp] at HS HE
          have hop : o ≤ 512 := by omega
          have hn4 : (n : Int) ≤ 400 := by omega
          have hwr : IntKind.i64.wrap ((o : Int) + (n : Int)) = (o : Int) + (n : Int) := by
            simp [IntKind.wrap, IntKind.signed, IntKind.bits]
            omega
          clear ho hsn htl hsz hen hsp hoo hn hon
          go_wp2_with fail
          refine HS.mono ?_
          rintro e w1 ⟨rfl, f1⟩
          have HF1 := Lib.hid (HF.out.trans f1 (fun _ _ q => q))
          obtain ⟨sb, hsb⟩ : ∃ sb, sb = w1.heap.size := ⟨_, rfl⟩
          have hb1 := Blk.new w1 90 #[.int .i64 o, .int .i64 n]
          have HE1 := Lib.hid (HE.out (w1.alloc (.cells #[.int .i64 o, .int .i64 n] 90)))
          have HF1a := Lib.hid (HF1.out.alloc (.cells #[.int .i64 o, .int .i64 n] 90))
          rw [← hsb] at hb1
          have HB1 := Lib.hid hb1
          have HSb := Lib.hid hsb
          clear HS f1 HE hb1 hsb
          go_wp2_with fail
          refine HE1.out.mono ?_
          rintro e w2 ⟨rfl, f2⟩
          have hb2 := HB1.out.keep f2 (fun q => q)
          have HF2 := Lib.hid (HF1a.out.trans f2 (fun _ _ q => q))
          have HC : Hid (∀ w', Fr (fun _ => False) w2 w' → (w'.cell? ⟨sb, 0, none⟩ = some (.int .i64 o) ∧ w'.cell? ⟨sb, 1, none⟩ = some (.int .i64 n)) ∧ Calls Try.prog 60 #[.pointer (some ⟨P, 0, none⟩)] w' fun e w'' => e = .returned (.int .i64 se) ∧ w' = w'') := Lib.hid fun w' f => by
            have hb3 := hb2.keep f (fun q => q)
            refine ⟨⟨hb3.cell 0, hb3.cell 1⟩, ?_⟩
            have := slotsEnd_any (HK.out.1.new (HF2.out.trans f (fun _ _ q => q))) HK.out.2
            rwa [← HMm.out.2] at this
          clear HE1 f2 HF1 HF1a hb2 HB1
          rw [← HSb.out]
          go_upto_region 12 with (fail)
          refine wp_region_held_drew (S := fun w' => Fr (fun _ => False) w2 w') (by kernel_rfl) ((Fr.refl _ _).drew) (fun hS0 => ?_)
          refine anyH_take 0 43 (.pointer (some ⟨sb, 0, none⟩)) rfl rfl (by kernel_rfl) (by kernel_rfl) (by kernel_rfl) (fun _ _ _ h => h) (.inl ⟨by rfl, fun w'' hS => by go_simp⟩) hS0 ?_
          (simp only [List.setIfInBounds_toArray, List.set_cons_zero, List.set_cons_succ])
          refine anyH_take 1 44 (.int .i64 o) rfl rfl (by kernel_rfl) (by kernel_rfl) (by kernel_rfl) (fun _ _ _ h => h) (.inl ⟨by rfl, fun w'' hS => by have q0 := (HC.out w'' hS).1.1; go_simp⟩) hS0 ?_
          (simp only [List.setIfInBounds_toArray, List.set_cons_zero, List.set_cons_succ])
          refine anyH_take 2 45 (.pointer (some ⟨sb, 1, none⟩)) rfl rfl (by kernel_rfl) (by kernel_rfl) (by kernel_rfl) (fun _ _ _ h => h) (.inl ⟨by rfl, fun w'' hS => by go_simp⟩) hS0 ?_
          (simp only [List.setIfInBounds_toArray, List.set_cons_zero, List.set_cons_succ])
          refine anyH_take 3 46 (.int .i64 n) rfl rfl (by kernel_rfl) (by kernel_rfl) (by kernel_rfl) (fun _ _ _ h => h) (.inl ⟨by rfl, fun w'' hS => by have q0 := (HC.out w'' hS).1.2; go_simp⟩) hS0 ?_
          (simp only [List.setIfInBounds_toArray, List.set_cons_zero, List.set_cons_succ])
          refine anyH_take 4 47 (.int .i64 (o + n : Int)) rfl rfl (by kernel_rfl) (by kernel_rfl) (by kernel_rfl) (fun _ _ _ h => h) (.inl ⟨by rfl, fun w'' hS => by go_simp⟩) hS0 ?_
          (simp only [List.setIfInBounds_toArray, List.set_cons_zero, List.set_cons_succ])
          refine anyH_take 5 48 (.int .i64 en) rfl rfl (by kernel_rfl) (by kernel_rfl) (by kernel_rfl) (fun _ _ _ h => h) (.inl ⟨by rfl, fun w'' hS => by go_simp⟩) hS0 ?_
          (simp only [List.setIfInBounds_toArray, List.set_cons_zero, List.set_cons_succ])
          refine anyH_take 6 49 (.bool false) rfl rfl (by kernel_rfl) (by kernel_rfl) (by kernel_rfl) (fun _ _ _ h => h) (.inl ⟨by rfl, fun w'' hS => by go_simp⟩) hS0 ?_
          (simp only [List.setIfInBounds_toArray, List.set_cons_zero, List.set_cons_succ])
          refine anyH_take 7 50 (.bool false) rfl rfl (by kernel_rfl) (by kernel_rfl) (by kernel_rfl) (fun _ _ _ h => h) (.inl ⟨by rfl, fun w'' hS => by go_simp⟩) hS0 ?_
          (simp only [List.setIfInBounds_toArray, List.set_cons_zero, List.set_cons_succ])
          refine anyH_take 8 51 (.pointer (some ⟨sb, 0, none⟩)) rfl rfl (by kernel_rfl) (by kernel_rfl) (by kernel_rfl) (fun _ _ _ h => h) (.inl ⟨by rfl, fun w'' hS => by go_simp⟩) hS0 ?_
          (simp only [List.setIfInBounds_toArray, List.set_cons_zero, List.set_cons_succ])
          refine anyH_take 9 52 (.int .i64 o) rfl rfl (by kernel_rfl) (by kernel_rfl) (by kernel_rfl) (fun _ _ _ h => h) (.inl ⟨by rfl, fun w'' hS => by have q0 := (HC.out w'' hS).1.1; go_simp⟩) hS0 ?_
          (simp only [List.setIfInBounds_toArray, List.set_cons_zero, List.set_cons_succ])
          refine anyH_take 10 53 (.pointer (some ⟨P, 0, none⟩)) rfl rfl (by kernel_rfl) (by kernel_rfl) (by kernel_rfl) (fun _ _ _ h => h) (.inl ⟨by rfl, fun w'' hS => by go_simp⟩) hS0 ?_
          (simp only [List.setIfInBounds_toArray, List.set_cons_zero, List.set_cons_succ])
          refine anyH_one 11 54 (.int .i64 se) (by kernel_rfl) (tame_call 54 rfl rfl (by rfl) (fun w'' hS => by go_simp) (fun w'' hS => ((HC.out w'' hS).2.mono fun e w3 he => ⟨he.1, he.2 ▸ hS⟩))) hS0 (fun wl1 hS0 => ?_)
          (simp only [List.setIfInBounds_toArray, List.set_cons_zero, List.set_cons_succ])
          refine anyH_take 12 55 (.bool false) rfl rfl (by kernel_rfl) (by kernel_rfl) (by kernel_rfl) (fun _ _ _ h => h) (.inl ⟨by rfl, fun w'' hS => by go_simp⟩) hS0 ?_
          (simp only [List.setIfInBounds_toArray, List.set_cons_zero, List.set_cons_succ])
          refine anyH_take 13 56 (.bool false) rfl rfl (by kernel_rfl) (by kernel_rfl) (by kernel_rfl) (fun _ _ _ h => h) (.inl ⟨by rfl, fun w'' hS => by go_simp⟩) hS0 ?_
          (simp only [List.setIfInBounds_toArray, List.set_cons_zero, List.set_cons_succ])
          refine anyH_take 14 57 (.bool false) rfl rfl (by kernel_rfl) (by kernel_rfl) (by kernel_rfl) (fun _ _ _ h => h) (.inl ⟨by rfl, fun w'' hS => by go_simp⟩) hS0 ?_
          (simp only [List.setIfInBounds_toArray, List.set_cons_zero, List.set_cons_succ])
          refine anyH_take 15 58 (.pointer (some ⟨sb, 1, none⟩)) rfl rfl (by kernel_rfl) (by kernel_rfl) (by kernel_rfl) (fun _ _ _ h => h) (.inl ⟨by rfl, fun w'' hS => by go_simp⟩) hS0 ?_
          (simp only [List.setIfInBounds_toArray, List.set_cons_zero, List.set_cons_succ])
          refine anyH_take 16 59 (.int .i64 n) rfl rfl (by kernel_rfl) (by kernel_rfl) (by kernel_rfl) (fun _ _ _ h => h) (.inl ⟨by rfl, fun w'' hS => by have q0 := (HC.out w'' hS).1.2; go_simp⟩) hS0 ?_
          (simp only [List.setIfInBounds_toArray, List.set_cons_zero, List.set_cons_succ])
          refine anyH_take 17 60 (.bool false) rfl rfl (by kernel_rfl) (by kernel_rfl) (by kernel_rfl) (fun _ _ _ h => h) (.inl ⟨by rfl, fun w'' hS => by go_simp⟩) hS0 ?_
          (simp only [List.setIfInBounds_toArray, List.set_cons_zero, List.set_cons_succ])
          refine anyH_take 18 61 (.bool false) rfl rfl (by kernel_rfl) (by kernel_rfl) (by kernel_rfl) (fun _ _ _ h => h) (.inl ⟨by rfl, fun w'' hS => by go_simp⟩) hS0 ?_
          (simp only [List.setIfInBounds_toArray, List.set_cons_zero, List.set_cons_succ])
          refine wpAnyH_done (by kernel_rfl) ?_ _
          have c0 := (HC.out _ hS0).1.1
          clear HC
          go_wp2_with fail
          refine ⟨⟨j + 1, by go_num, by omega, ?_, Lib.hid (HF2.out.trans hS0 (fun _ _ q => q))⟩, by simp [intOf]; omega⟩
          rw [HO.out]
      · obtain rfl : j = m := by omega
        obtain ⟨en, hen⟩ : ∃ en, en = 512 - tot x.s := ⟨_, rfl⟩
        have het : 512 - tot (x.s.take j) = en := by rw [hen, List.take_of_length_le (by have := HMm.out.1; omega)]
        have hse' : se ≤ en := by have := HMm.out.2; have := HK.out.2.sz; omega
        have hen9 : en ≤ 512 := by omega
        rw [het]
        have HM : Hid (∀ w', Fr (fun _ => False) w w' → _) := Lib.hid fun w' f => may_last HK.out.1 HK.out.2 hen HMm.out.2 f
        have hs1 : ∀ W, (Instr.sliceAt 26 (.pointer (some ⟨P, 0, none⟩)) (some (.int .i64 1)) (some (.int .i64 2)) none).run Try.prog W = .ok (.slice (some ⟨P, 1, none⟩) 1 511) W := fun W => page_lh2 P (o := 1) (p := 2) rfl rfl (by omega) (by omega) W
        have hs2 : ∀ W, (Instr.sliceAt 26 (.pointer (some ⟨P, 0, none⟩)) (some (.int .i64 6)) (some (.int .i64 8)) none).run Try.prog W = .ok (.slice (some ⟨P, 6, none⟩) 2 506) W := fun W => page_lh2 P (o := 6) (p := 8) rfl rfl (by omega) (by omega) W
        have hs3 : ∀ W, (Instr.sliceAt 26 (.pointer (some ⟨P, 0, none⟩)) (some (.int .i64 se)) (some (.int .i64 en)) none).run Try.prog W = .ok (.slice (some ⟨P, if 512 = se then 0 else se, none⟩) (en - se) (512 - se)) W := fun W => page_lh2 P rfl rfl hse' hen9 W
        generalize (some ⟨P, if 512 = se then 0 else se, none⟩ : Option Addr) = SA at *
        generalize 512 - se = SC at *
        have hee : ((en : Int) == (en : Int)) = true := by simp
        clear hen het hlt hj
        go_upto_region 16 with (fail)
        refine wp_region_held_drew (S := fun w' => Fr (fun _ => False) w w') (by kernel_rfl) (HF.out.drew) (fun hS0 => ?_)
        refine anyH_take 0 65 (.int .i64 en) rfl rfl (by kernel_rfl) (by kernel_rfl) (by kernel_rfl) (fun _ _ _ h => h) (.inl ⟨by rfl, fun w'' hS => by go_simp⟩) hS0 ?_
        (simp only [List.setIfInBounds_toArray, List.set_cons_zero, List.set_cons_succ])
        refine anyH_take 1 66 (.pointer (some ⟨P, 0, none⟩)) rfl rfl (by kernel_rfl) (by kernel_rfl) (by kernel_rfl) (fun _ _ _ h => h) (.inl ⟨by rfl, fun w'' hS => by go_simp⟩) hS0 ?_
        (simp only [List.setIfInBounds_toArray, List.set_cons_zero, List.set_cons_succ])
        refine anyH_one 2 67 (.int .i64 en) (by kernel_rfl) (tame_call 67 rfl rfl (by rfl) (fun w'' hS => by go_simp) (fun w'' hS => ((HM.out w'' hS).1.mono fun e w3 he => ⟨he.1, he.2 ▸ hS⟩))) hS0 (fun wl1 hS0 => ?_)
        (simp only [List.setIfInBounds_toArray, List.set_cons_zero, List.set_cons_succ])
        refine anyH_take 3 68 (.bool true) rfl rfl (by kernel_rfl) (by kernel_rfl) (by kernel_rfl) (fun _ _ _ h => h) (.inl ⟨by rfl, fun w'' hS => by go_simp⟩) hS0 ?_
        (simp only [List.setIfInBounds_toArray, List.set_cons_zero, List.set_cons_succ])
        refine anyH_take 4 69 (.bool true) rfl rfl (by kernel_rfl) (by kernel_rfl) (by kernel_rfl) (fun _ _ _ h => h) (.inl ⟨by rfl, fun w'' hS => by go_simp⟩) hS0 ?_
        (simp only [List.setIfInBounds_toArray, List.set_cons_zero, List.set_cons_succ])
        refine anyH_take 5 70 (.pointer (some ⟨P, 0, none⟩)) rfl rfl (by kernel_rfl) (by kernel_rfl) (by kernel_rfl) (fun _ _ _ h => h) (.inl ⟨by rfl, fun w'' hS => by go_simp⟩) hS0 ?_
        (simp only [List.setIfInBounds_toArray, List.set_cons_zero, List.set_cons_succ])
        refine anyH_take 6 71 (.pointer (some ⟨P, 0, none⟩)) rfl rfl (by kernel_rfl) (by kernel_rfl) (by kernel_rfl) (fun _ _ _ h => h) (.inl ⟨by rfl, fun w'' hS => by go_simp⟩) hS0 ?_
        (simp only [List.setIfInBounds_toArray, List.set_cons_zero, List.set_cons_succ])
        refine anyH_take 7 72 (.slice (some ⟨P, 1, none⟩) 1 511) rfl rfl (by kernel_rfl) (by kernel_rfl) (by kernel_rfl) (fun _ _ _ h => h) (.inl ⟨by rfl, fun w'' hS => by have q0 := hs1 w''; go_simp⟩) hS0 ?_
        (simp only [List.setIfInBounds_toArray, List.set_cons_zero, List.set_cons_succ])
        refine anyH_one 8 73 (.bool true) (by kernel_rfl) (tame_call 73 rfl rfl (by rfl) (fun w'' hS => by go_simp) (fun w'' hS => ((HM.out w'' hS).2.1.mono fun e w3 he => ⟨he.1, hS.trans he.2 (fun _ _ q => q)⟩))) hS0 (fun wl2 hS0 => ?_)
        (simp only [List.setIfInBounds_toArray, List.set_cons_zero, List.set_cons_succ])
        refine anyH_take 9 74 (.bool true) rfl rfl (by kernel_rfl) (by kernel_rfl) (by kernel_rfl) (fun _ _ _ h => h) (.inl ⟨by rfl, fun w'' hS => by go_simp⟩) hS0 ?_
        (simp only [List.setIfInBounds_toArray, List.set_cons_zero, List.set_cons_succ])
        refine anyH_take 10 75 (.bool true) rfl rfl (by kernel_rfl) (by kernel_rfl) (by kernel_rfl) (fun _ _ _ h => h) (.inl ⟨by rfl, fun w'' hS => by go_simp⟩) hS0 ?_
        (simp only [List.setIfInBounds_toArray, List.set_cons_zero, List.set_cons_succ])
        refine anyH_take 11 76 (.pointer (some ⟨P, 0, none⟩)) rfl rfl (by kernel_rfl) (by kernel_rfl) (by kernel_rfl) (fun _ _ _ h => h) (.inl ⟨by rfl, fun w'' hS => by go_simp⟩) hS0 ?_
        (simp only [List.setIfInBounds_toArray, List.set_cons_zero, List.set_cons_succ])
        refine anyH_take 12 77 (.pointer (some ⟨P, 0, none⟩)) rfl rfl (by kernel_rfl) (by kernel_rfl) (by kernel_rfl) (fun _ _ _ h => h) (.inl ⟨by rfl, fun w'' hS => by go_simp⟩) hS0 ?_
        (simp only [List.setIfInBounds_toArray, List.set_cons_zero, List.set_cons_succ])
        refine anyH_take 13 78 (.slice (some ⟨P, 6, none⟩) 2 506) rfl rfl (by kernel_rfl) (by kernel_rfl) (by kernel_rfl) (fun _ _ _ h => h) (.inl ⟨by rfl, fun w'' hS => by have q0 := hs2 w''; go_simp⟩) hS0 ?_
        (simp only [List.setIfInBounds_toArray, List.set_cons_zero, List.set_cons_succ])
        refine anyH_one 14 79 (.bool true) (by kernel_rfl) (tame_call 79 rfl rfl (by rfl) (fun w'' hS => by go_simp) (fun w'' hS => ((HM.out w'' hS).2.2.1.mono fun e w3 he => ⟨he.1, hS.trans he.2 (fun _ _ q => q)⟩))) hS0 (fun wl3 hS0 => ?_)
        (simp only [List.setIfInBounds_toArray, List.set_cons_zero, List.set_cons_succ])
        refine anyH_take 15 80 (.bool true) rfl rfl (by kernel_rfl) (by kernel_rfl) (by kernel_rfl) (fun _ _ _ h => h) (.inl ⟨by rfl, fun w'' hS => by go_simp⟩) hS0 ?_
        (simp only [List.setIfInBounds_toArray, List.set_cons_zero, List.set_cons_succ])
        refine anyH_take 16 81 (.bool true) rfl rfl (by kernel_rfl) (by kernel_rfl) (by kernel_rfl) (fun _ _ _ h => h) (.inl ⟨by rfl, fun w'' hS => by go_simp⟩) hS0 ?_
        (simp only [List.setIfInBounds_toArray, List.set_cons_zero, List.set_cons_succ])
        refine anyH_take 17 82 (.pointer (some ⟨P, 0, none⟩)) rfl rfl (by kernel_rfl) (by kernel_rfl) (by kernel_rfl) (fun _ _ _ h => h) (.inl ⟨by rfl, fun w'' hS => by go_simp⟩) hS0 ?_
        (simp only [List.setIfInBounds_toArray, List.set_cons_zero, List.set_cons_succ])
        refine anyH_take 18 83 (.pointer (some ⟨P, 0, none⟩)) rfl rfl (by kernel_rfl) (by kernel_rfl) (by kernel_rfl) (fun _ _ _ h => h) (.inl ⟨by rfl, fun w'' hS => by go_simp⟩) hS0 ?_
        (simp only [List.setIfInBounds_toArray, List.set_cons_zero, List.set_cons_succ])
        refine anyH_take 19 84 (.pointer (some ⟨P, 0, none⟩)) rfl rfl (by kernel_rfl) (by kernel_rfl) (by kernel_rfl) (fun _ _ _ h => h) (.inl ⟨by rfl, fun w'' hS => by go_simp⟩) hS0 ?_
        (simp only [List.setIfInBounds_toArray, List.set_cons_zero, List.set_cons_succ])
        refine anyH_take 21 86 (.int .i64 en) rfl rfl (by kernel_rfl) (by kernel_rfl) (by kernel_rfl) (fun _ _ _ h => h) (.inl ⟨by rfl, fun w'' hS => by go_simp⟩) hS0 ?_
        (simp only [List.setIfInBounds_toArray, List.set_cons_zero, List.set_cons_succ])
        refine anyH_one 20 85 (.int .i64 se) (by kernel_rfl) (tame_call 85 rfl rfl (by rfl) (fun w'' hS => by go_simp) (fun w'' hS => ((HM.out w'' hS).2.2.2.1.mono fun e w3 he => ⟨he.1, he.2 ▸ hS⟩))) hS0 (fun wl4 hS0 => ?_)
        (simp only [List.setIfInBounds_toArray, List.set_cons_zero, List.set_cons_succ])
        refine anyH_take 22 87 (.slice SA (en - se) SC) rfl rfl (by kernel_rfl) (by kernel_rfl) (by kernel_rfl) (fun _ _ _ h => h) (.inl ⟨by rfl, fun w'' hS => by have q0 := hs3 w''; go_simp⟩) hS0 ?_
        (simp only [List.setIfInBounds_toArray, List.set_cons_zero, List.set_cons_succ])
        refine anyH_one 23 88 (.bool true) (by kernel_rfl) (tame_call 88 rfl rfl (by rfl) (fun w'' hS => by go_simp) (fun w'' hS => ((HM.out w'' hS).2.2.2.2.mono fun e w3 he => ⟨he.1, hS.trans he.2 (fun _ _ q => q)⟩))) hS0 (fun wl5 hS0 => ?_)
        (simp only [List.setIfInBounds_toArray, List.set_cons_zero, List.set_cons_succ])
        refine anyH_take 24 89 (.bool true) rfl rfl (by kernel_rfl) (by kernel_rfl) (by kernel_rfl) (fun _ _ _ h => h) (.inl ⟨by rfl, fun w'' hS => by go_simp⟩) hS0 ?_
        (simp only [List.setIfInBounds_toArray, List.set_cons_zero, List.set_cons_succ])
        refine anyH_take 25 2 (.bool true) rfl rfl (by kernel_rfl) (by kernel_rfl) (by kernel_rfl) (fun _ _ _ h => h) (.inl ⟨by rfl, fun w'' hS => by go_simp⟩) hS0 ?_
        (simp only [List.setIfInBounds_toArray, List.set_cons_zero, List.set_cons_succ])
        refine wpAnyH_done (by kernel_rfl) ?_ _
        go_wp2_with fail
        go_ret
        exact ⟨rfl, hS0⟩
end
end Go.Proofs.Ytijdbngjnhhheaa
