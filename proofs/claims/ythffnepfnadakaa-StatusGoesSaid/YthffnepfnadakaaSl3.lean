/- The law StatusGoes, of what status' calls answer. -/
import Derived.Test.YthffnepfnadakaaSl4
namespace Go.Proofs.Ythffnepfnadakaa
open Go.RowKit

def Goes (ka : Nat) (l : List Nat) : Prop := stepL (ka :: l) = true ∧ ∀ x ∈ ka :: l, 1 ≤ x ∧ x ≤ 9
theorem stepL_snoc : ∀ (l : List Nat) (a b : Nat), stepL (a :: l) = true → leadsN ((a :: l).getLastD 0) b = true → stepL (a :: (l ++ [b])) = true
  | [], a, b, _, h => by
    have h2 : leadsN a b = true := by simpa using h
    simp [stepL, h2]
  | c :: l, a, b, hs, h => by
    simp only [stepL, Bool.and_eq_true] at hs
    rw [List.cons_append]
    simp only [stepL, Bool.and_eq_true]
    exact ⟨hs.1, stepL_snoc l c b hs.2 (by simpa [List.getLastD] using h)⟩
theorem step_get : ∀ (l : List Nat) (a : Nat), stepL (a :: l) = true → ∀ j, 0 < j → j < (a :: l).length → leadsN ((a :: l).getD (j - 1) 0) ((a :: l).getD j 0) = true
  | [], a, _, j, h0, h => by simp at h; omega
  | c :: l, a, hs, j, h0, h => by
    simp only [stepL, Bool.and_eq_true] at hs
    rcases Nat.lt_or_ge 1 j with h1 | h1
    · obtain ⟨j', rfl⟩ : ∃ j', j = j' + 2 := ⟨j - 2, by omega⟩
      have := step_get l c hs.2 (j' + 1) (by omega) (by simp at h ⊢; omega)
      simpa using this
    · obtain rfl : j = 1 := by omega
      simpa using hs.1
theorem upN_getD (l : List Nat) (j : Nat) : (upN l).getD j 0 = ((l.getD j 0 : Nat) : Int) := by
  unfold upN
  rw [List.getD_eq_getElem?_getD, List.getD_eq_getElem?_getD, List.getElem?_map]
  cases l[j]? <;> rfl
theorem goes_mem {ka j : Nat} {l : List Nat} (h : Goes ka l) (hj : j < (ka :: l).length) : 1 ≤ (ka :: l).getD j 0 ∧ (ka :: l).getD j 0 ≤ 9 := by
  rw [List.getD_eq_getElem?_getD, List.getElem?_eq_getElem hj]
  exact h.2 _ (List.getElem_mem hj)
theorem may_nat {k : Nat} (h : 1 ≤ k ∧ k ≤ 9) : mayS (k : Int) = true := decide_eq_true (by omega)
theorem goes_walk {ka : Nat} {l : List Nat} (h : Goes ka l) : walkAt (upN (ka :: l)) = 0 ∧ walkN (upN (ka :: l)) = 0 ∧ walkE (upN (ka :: l)) = 0 := by
  have h1 : walkAt (upN (ka :: l)) = 0 := walk_none (fun j h0 hj => by
    rw [upN_len] at hj
    rw [upN_getD, upN_getD]
    unfold leadsS
    rw [may_nat (goes_mem h (j := j - 1) (by omega)), may_nat (goes_mem h hj), Int.toNat_natCast, Int.toNat_natCast, step_get l ka h.1 j h0 hj]
    rfl)
  have h2 : (upN (ka :: l)).all mayS = true := by
    rw [List.all_eq_true]
    intro z hz
    obtain ⟨x, hx, rfl⟩ := List.mem_map.1 hz
    exact may_nat (h.2 x hx)
  refine ⟨h1, ?_, ?_⟩
  · unfold walkN; rw [h2, h1]; rfl
  · unfold walkE; rw [h2, h1]; rfl
theorem goes_next {ka x : Nat} {l : List Nat} (h : Goes ka l) (hx : x ∈ nextL ((ka :: l).getLastD 0)) (hb : 1 ≤ x ∧ x ≤ 9) : Goes ka (l ++ [x]) := by
  refine ⟨stepL_snoc l ka x h.1 (by unfold leadsN; rwa [List.contains_iff_mem]), fun y hy => ?_⟩
  rw [← List.cons_append, List.mem_append] at hy
  rcases hy with hy | hy
  · exact h.2 y hy
  · rw [List.mem_singleton.1 hy]; exact hb
set_option maxRecDepth 100000 in
set_option maxHeartbeats 4000000 in
theorem sgoes (P : StatusP) (a : Int) {w : World} {v : Value} {zs : List Int} (hv : IntsAt w v zs) : Calls Try.prog 5 #[.int .i64 a, v] w (Tru w) := by
  have HK := Lib.hid (fun W => sknown P W)
  have HRA := Lib.hid (rmays_any a)
  obtain ⟨A, c1, rfl, hml, hA⟩ := hv
  obtain ⟨m, hm⟩ : ∃ m, m = zs.length := ⟨_, rfl⟩
  rw [← hm] at hml ⊢
  cases hma : mayS a with
  | false =>
    rw [hma] at HRA
    clear hma hm hml hA
    go_enter Try.func5, Try.ntmps5
    go_wp2_with fail
    refine (HRA.out _).mono ?_
    rintro e w' ⟨rfl, rfl⟩
    go_wp2_with fail
    refine (HK.out _).mono ?_
    rintro e wk ⟨rfl, fk⟩
    have HFK := Lib.hid (fk)
    clear fk
    go_wp2_with fail
    go_ret
    exact ⟨rfl, HFK.out⟩
  | true =>
    rw [hma] at HRA
    by_cases h1 : 60 < m
    · have h1i : (60 : Int) < (m : Int) := by omega
      clear hma hm hml hA h1
      go_enter Try.func5, Try.ntmps5
      go_wp2_with fail
      refine (HRA.out _).mono ?_
      rintro e w' ⟨rfl, rfl⟩
      go_wp2_with fail
      refine (HK.out _).mono ?_
      rintro e wk ⟨rfl, fk⟩
      have HFK := Lib.hid (fk)
      clear fk
      go_wp2_with fail
      go_ret
      exact ⟨rfl, HFK.out⟩
    · have h1i : ¬ (60 : Int) < (m : Int) := by omega
      have hm9 : m ≤ 60 := by omega
      have hr : 1 ≤ a ∧ a ≤ 9 := of_decide_eq_true hma
      obtain ⟨ka, rfl⟩ : ∃ k : Nat, a = k := ⟨a.toNat, by omega⟩
      have HG0 : Hid (Goes ka [] ∧ ([] : List Nat).length = 0) := Lib.hid ⟨⟨rfl, fun x hx => by rw [List.mem_singleton.1 hx]; omega⟩, rfl⟩
      have HO0 : Hid (RowS (w.alloc (.cells #[.int .i64 (ka : Int)] 22)) w.heap.size (.slice (some ⟨w.heap.size, 0, none⟩) 1 1) (upN [ka])) := Lib.hid ⟨rfl, .inr ⟨w.heap.size, 1, _, rfl, Nat.le_refl _, Blk.new w 22 #[.int .i64 (ka : Int)], by simp [upN], by simp [maxLen], rfl, rfl⟩⟩
      have HF0 : Hid (Fr (fun _ => False) w (w.alloc (.cells #[.int .i64 (ka : Int)] 22))) := Lib.hid ((Fr.refl _ _).alloc _)
      have HP := Lib.hid P
      have HH := Lib.hid (And.intro hm (And.intro hr hA))
      clear hma hm hml hA h1 hr
      go_enter Try.func5, Try.ntmps5
      go_wp2_with fail
      refine (HRA.out _).mono ?_
      rintro e w' ⟨rfl, rfl⟩
      go_wp2_with fail
      go_loopw [5, 6] (fun o x wq => ∃ (ov : Value) (i : Nat) (l : List Nat), ov = o ∧ x = .int .i64 i ∧ i ≤ m ∧ Hid (RowS wq w'.heap.size ov (upN (ka :: l))) ∧ Hid (Fr (fun _ => False) w' wq) ∧ Hid (Goes ka l ∧ l.length = i)) (fun _ x _ => m - (intOf x).toNat)
      case atStart => exact ⟨_, 0, [], rfl, rfl, Nat.zero_le _, HO0, HF0, HG0⟩
      case round =>
        clear HO0 HF0 HG0 HRA
        obtain ⟨o, i, l, ho, rfl, hi, HO, HF, HG⟩ := hrel
        subst ho
        obtain ⟨hgo, hli⟩ := HG.out
        obtain ⟨c, hc⟩ : ∃ c, c = (ka :: l).getLastD 0 := ⟨_, rfl⟩
        have hci : (ka :: l)[i]? = some c := by
          rw [hc, List.getLastD_eq_getLast?, List.getLast?_eq_getElem?, show (ka :: l).length - 1 = i by rw [List.length_cons]; omega, List.getElem?_eq_getElem (by rw [List.length_cons]; omega)]
          rfl
        have hcm : 1 ≤ c ∧ c ≤ 9 := hgo.2 c (List.mem_of_getElem? hci)
        obtain ⟨q, hq⟩ : ∃ q, q = (upN (ka :: l)).length := ⟨_, rfl⟩
        have hqi : q = i + 1 := by rw [hq, upN_len, List.length_cons, hli]
        obtain ⟨g, cap, e1, hd2⟩ := HO.out.cell (upN_get hci)
        rw [← hq] at e1
        subst e1
        have HCL : Hid (∀ W B G, RowS W B (.slice (some ⟨G, 0, none⟩) q cap) (upN (ka :: l)) → W.cell? ⟨G, i, none⟩ = some (.int .i64 (c : Int))) := Lib.hid (fun W B G h => by
          obtain ⟨g', cap', e2, h2⟩ := h.cell (upN_get hci)
          injection e2 with e2
          injection e2 with e2
          injection e2 with e2
          rw [e2]
          exact h2)
        have hgw := goes_walk hgo
        have HWK : Hid (∀ W v, IntsAt W v (upN (ka :: l)) → Calls Try.prog 18 #[v] W fun e w' => e = .returned (.tuple #[.int .i64 ((0 : Nat) : Int), .int .i64 ((0 : Nat) : Int)]) ∧ Fr (fun _ => False) W w') := Lib.hid (fun W v h => by
          have := HP.out.walk W v _ h (by omega)
          rw [hgw.2.1, hgw.2.2] at this
          exact this)
        have HRK : Hid (∀ W v, IntsAt W v (upN (ka :: l)) → Calls Try.prog 19 #[v] W fun e w' => e = .returned (.int .i64 ((0 : Nat) : Int)) ∧ Fr (fun _ => False) W w') := Lib.hid (fun W v h => by
          have := rwalk_any h (by omega)
          rw [hgw.1] at this
          exact this)
        have hway := walk_way l ka c (by have := HH.out.2.1; omega) (by have := HH.out.2.1; omega) hgo.1 hc.symm
        obtain ⟨y, hy⟩ : ∃ y, y = (upN (wayL ka c)).length := ⟨_, rfl⟩
        have hyq : (y : Int) ≤ (q : Int) := by have := hway.2; rw [← upN_len, ← hy, ← upN_len, ← hq] at this; omega
        have HWY : Hid (∀ W, Calls Try.prog 20 #[.int .i64 (ka : Int), .int .i64 (c : Int)] W fun e w' => ∃ v, e = .returned (.tuple #[v, .int .i64 ((0 : Nat) : Int)]) ∧ IntsAt w' v (upN (wayL ka c)) ∧ Fr (fun _ => False) W w') := Lib.hid (fun W => by
          have := HP.out.way ka c W
          have hmk : mayS (ka : Int) = true := may_nat (by have := HH.out.2.1; omega)
          have hE : wayE ka c = 0 := by
            unfold wayE
            rw [hmk, may_nat hcm, Int.toNat_natCast, Int.toNat_natCast]
            cases hh : wayL ka c with
            | nil => exact absurd hh hway.1
            | cons x z => rfl
          have hS : wayS ka c = upN (wayL ka c) := by
            unfold wayS
            rw [hmk, may_nat hcm, Int.toNat_natCast, Int.toNat_natCast]
            rfl
          rw [hE, hS] at this
          exact this)
        have HY := Lib.hid hy
        have hqq : (q : Int) - 1 = (i : Int) := by omega
        have hi0 : (0 : Int) ≤ (i : Int) := by omega
        have hiq : (i : Int) < (q : Int) := by omega
        have hi60 : (i : Int) ≤ 60 := by omega
        by_cases hlt : i < m
        · have hmm := HH.out.1
          obtain ⟨z1, hz1⟩ : ∃ z, zs[i]? = some z := ⟨_, List.getElem?_eq_getElem (by omega)⟩
          obtain ⟨b1, o1, rfl, hcA⟩ := HH.out.2.2 (by omega)
          have hd0 := hcA i z1 hz1
          have HD := Lib.hid (fun W (f : Fr (fun _ => False) w' W) => (f.cell (p := ⟨b1, o1 + i, none⟩) (World.block_lt_of_cell? w' _ hd0) (fun q => q)).trans hd0)
          have HNX := Lib.hid (HP.out.next (c : Int))
          have hnS : nextS (c : Int) = upN (nextL c) := by unfold nextS; rw [may_nat hcm, Int.toNat_natCast]; rfl
          rw [hnS] at HNX
          obtain ⟨n, hn⟩ : ∃ n, n = (upN (nextL c)).length := ⟨_, rfl⟩
          have hii : (i : Int) < (m : Int) := by omega
          have HLT := Lib.hid (And.intro hlt (And.intro hgo (And.intro hli hc)))
          have HN := Lib.hid hn
          by_cases hn0 : n = 0
          · subst hn0
            have HLS : Hid (∀ W, Calls Try.prog 10 #[.int .i64 (c : Int)] W fun e w' => e = .returned (.bool true) ∧ Fr (fun _ => False) W w') := Lib.hid (fun W => by
              have := HP.out.last (c : Int) W
              have hL : lastS (c : Int) = true := by
                unfold lastS
                rw [may_nat hcm, Int.toNat_natCast, show nextL c = [] from List.length_eq_zero_iff.1 (by rw [← upN_len]; exact hn.symm)]
                rfl
              rw [hL] at this
              exact this)
            clear hgo hli hc hci hcm hq hqi hgw hway hy hlt hmm hz1 hcA hd0 hnS hn HG HD hi
            go_wp2_with fail
            refine (HNX.out _).mono ?_
            rintro e w4 ⟨v4, rfl, hv4, f4⟩
            obtain ⟨A4, c4, rfl, hm4, hA4⟩ := hv4
            rw [← HN.out]
            have HE4 := Lib.hid (And.intro (HO.out.keep0 f4) (HF.out.trans f4 (fun _ _ q => q)))
            clear f4 hm4 hA4 hd2 HO HF
            go_wp2_with fail
            refine (HLS.out _).mono ?_
            rintro e w5 ⟨rfl, f5⟩
            have HE := Lib.hid (And.intro (HE4.out.1.keep0 f5) (HE4.out.2.trans f5 (fun _ _ q => q)))
            clear f5 HE4
            go_wp2_with fail
            refine (HWK.out _ _ HE.out.1.ints).mono ?_
            rintro e w6 ⟨rfl, f6⟩
            have HE6 := Lib.hid (And.intro (HE.out.1.keep0 f6) (HE.out.2.trans f6 (fun _ _ q => q)))
            clear f6 HE
            have hd2 := HCL.out _ _ _ HE6.out.1
            go_wp2_with fail
            refine (HWY.out _).mono ?_
            rintro e w7 ⟨v7, rfl, hv7, f7⟩
            have HE7 := Lib.hid (And.intro (HE6.out.1.keep0 f7) (HE6.out.2.trans f7 (fun _ _ q => q)))
            obtain ⟨A7, c7, rfl, hm7, hA7⟩ := hv7
            rw [← HY.out]
            clear f7 HE6 hd2 hm7 hA7
            go_wp2_with fail
            refine (HRK.out _ _ HE7.out.1.ints).mono ?_
            rintro e w8 ⟨rfl, f8⟩
            have HE8 := Lib.hid (HE7.out.2.trans f8 (fun _ _ q => q))
            clear f8 HE7
            go_wp2_with fail
            refine (HK.out _).mono ?_
            rintro e wk ⟨rfl, fk⟩
            have HFK := Lib.hid (HE8.out.trans fk (fun _ _ q => q))
            clear fk
            go_wp2_with fail
            go_ret
            exact ⟨rfl, HFK.out⟩
          · have hn9 : n ≤ 9 := by rw [hn, ← hnS]; exact nextS_len _
            have hnp : (0 : Int) < (n : Int) := by omega
            have hnz : ((n : Int) == 0) = false := by rw [beq_eq_false_iff_ne]; omega
            obtain ⟨j, hjn, hj⟩ : ∃ j : Nat, j < n ∧ (z1.tmod n + n).tmod n = (j : Int) := by
              have h1 := Int.tmod_lt_of_pos z1 (b := n) (by omega)
              have h2 := Int.lt_tmod_of_pos z1 (b := n) (by omega)
              have h3 := Int.emod_nonneg (z1.tmod n + n) (b := n) (by omega)
              have h4 := Int.emod_lt_of_pos (z1.tmod n + n) (b := n) (by omega)
              refine ⟨((z1.tmod n + n) % n).toNat, by omega, ?_⟩
              rw [Int.tmod_eq_emod_of_nonneg (by omega)]
              omega
            have hm0 : -(n : Int) < z1.tmod n := Int.lt_tmod_of_pos z1 (by omega)
            have hm1 : z1.tmod n < n := Int.tmod_lt_of_pos z1 (by omega)
            obtain ⟨x, hx⟩ : ∃ x, (nextL c)[j]? = some x := ⟨_, List.getElem?_eq_getElem (by rw [← upN_len]; omega)⟩
            have hxm : 1 ≤ x ∧ x ≤ 9 := of_decide_eq_true (List.all_eq_true.1 (all9_of next_may hcm.1 hcm.2) x (List.mem_of_getElem? hx))
            have HGN : Hid (Goes ka (l ++ [x]) ∧ (l ++ [x]).length = i + 1) := Lib.hid ⟨goes_next hgo (by rw [← hc]; exact List.mem_of_getElem? hx) hxm, by rw [List.length_append, hli]; rfl⟩
            have HX := Lib.hid (upN_get hx)
            have hj0 : (0 : Int) ≤ (j : Int) := by omega
            have hjn2 : (j : Int) < (n : Int) := by omega
            have HQ : Hid ((upN (ka :: l)).length ≤ 100000) := Lib.hid (by omega)
            have hn92 : (n : Int) ≤ 9 := by omega
            have HNP : Hid (0 < (upN (nextL c)).length) := Lib.hid (by omega)
            clear hgo hli hc hci hcm hq hqi hgw hway hy hlt hmm hz1 hcA hd0 hnS hn HG hi hn0 hx hxm hjn hn9
            go_wp2_with fail
            refine (HNX.out _).mono ?_
            rintro e w4 ⟨v4, rfl, hv4, f4⟩
            obtain ⟨A4, c4, rfl, hm4, hA4⟩ := hv4
            obtain ⟨b4, o4, rfl, hc4⟩ := hA4 HNP.out
            have hd4 := hc4 j _ HX.out
            rw [← HN.out]
            have HE4 := Lib.hid (And.intro (HO.out.keep0 f4) (HF.out.trans f4 (fun _ _ q => q)))
            have hd1 := HD.out _ HE4.out.2
            clear f4 hm4 hc4 hA4 hd2 HO HF
            have fb : Fr (fun _ => False) w4 (w4.alloc (.cells #[.int .i64 (x : Int)] 22)) := (Fr.refl _ w4).alloc _
            have HA5 := Lib.hid (And.intro (HE4.out.1.keep0 fb) (And.intro (HE4.out.2.trans fb (fun _ _ q => q)) ((Blk.new w4 22 #[.int .i64 (x : Int)]).cell 0)))
            clear fb HE4
            go_wp2_with (at_builtin; refine wpList_push_st rfl (.tmp 44) (.tmp 61) rfl rfl HA5.out.1 rfl HA5.out.2.2 HQ.out HA5.out.2.1.size ?_; intro v6 w6 ho6 hg6 hat6; have HG6 := Lib.hid (And.intro ho6 (HA5.out.2.1.grown hg6 (fun k hk => .inr (HA5.out.1.low hk)))); clear ho6 hg6 hat6)
            refine ⟨⟨v6, i + 1, l ++ [x], rfl, by go_num, by have := HLT.out.1; omega, Lib.hid ?_, Lib.hid HG6.out.2, HGN⟩, ?_⟩
            · have := HG6.out.1
              rw [show upN (ka :: l) ++ [(x : Int)] = upN (ka :: (l ++ [x])) by simp [upN]] at this
              exact this
            simp [intOf]
            have := HLT.out.1
            omega
        · obtain rfl : i = m := by omega
          have hii : ¬ (i : Int) < (i : Int) := by omega
          have HE := Lib.hid (And.intro HO.out HF.out)
          clear hgo hli hc hci hcm hq hqi hgw hway hy hlt HG hi HO HF hd2
          go_wp2_with fail
          refine (HWK.out _ _ HE.out.1.ints).mono ?_
          rintro e w6 ⟨rfl, f6⟩
          have HE6 := Lib.hid (And.intro (HE.out.1.keep0 f6) (HE.out.2.trans f6 (fun _ _ q => q)))
          clear f6 HE
          have hd2 := HCL.out _ _ _ HE6.out.1
          go_wp2_with fail
          refine (HWY.out _).mono ?_
          rintro e w7 ⟨v7, rfl, hv7, f7⟩
          have HE7 := Lib.hid (And.intro (HE6.out.1.keep0 f7) (HE6.out.2.trans f7 (fun _ _ q => q)))
          obtain ⟨A7, c7, rfl, hm7, hA7⟩ := hv7
          rw [← HY.out]
          clear f7 HE6 hd2 hm7 hA7
          go_wp2_with fail
          refine (HRK.out _ _ HE7.out.1.ints).mono ?_
          rintro e w8 ⟨rfl, f8⟩
          have HE8 := Lib.hid (HE7.out.2.trans f8 (fun _ _ q => q))
          clear f8 HE7
          go_wp2_with fail
          refine (HK.out _).mono ?_
          rintro e wk ⟨rfl, fk⟩
          have HFK := Lib.hid (HE8.out.trans fk (fun _ _ q => q))
          clear fk
          go_wp2_with fail
          go_ret
          exact ⟨rfl, HFK.out⟩
end Go.Proofs.Ythffnepfnadakaa
