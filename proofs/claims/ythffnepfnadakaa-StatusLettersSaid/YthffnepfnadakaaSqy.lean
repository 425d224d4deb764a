/- The call of the landed status: search. -/
import Derived.Test.YthffnepfnadakaaSqw
import Derived.WalkMore
namespace Go.Proofs.Ythffnepfnadakaa
open Go.RowKit

theorem QuS.parts {w : World} {B : Nat} {v : Value} {z : Int} {l : List Int} (h : QuS w B v (z :: l)) : ∃ g off c, v = .slice (some ⟨g, off, none⟩) (l.length + 1) c ∧ w.cell? ⟨g, off, none⟩ = some (.int .i64 z) := by
  obtain ⟨g, off, cap, cur, rfl, h1, h2, h3, h4, h5, h6⟩ := h
  refine ⟨g, off, cap, rfl, ?_⟩
  rw [cell_of_row w g off cur _ _ h2]
  have := h6 0 z rfl
  rwa [Nat.add_zero] at this
theorem RowS.lt_own {w : World} {B k : Nat} {v : Value} {l : List Int} (h : RowS w B v l) (hk : v.ownBlock = some k) : k < w.heap.size := by
  obtain ⟨-, h | ⟨b, c, cs, rfl, h1, h2, -⟩⟩ := h
  · obtain ⟨rfl, -⟩ := h
    cases hk
  · injection hk with hk
    subst hk
    exact Blk.lt h2
set_option maxRecDepth 100000 in
set_option maxHeartbeats 4000000 in
theorem psearch_any {a b : Nat} (h1 : 1 ≤ a) (h2 : a ≤ 9) (h3 : 1 ≤ b) (h4 : b ≤ 9) (w : World) : Calls Try.prog 29 #[.int .i64 (a : Nat), .int .i64 (b : Nat)] w fun e w' => ∃ M f, e = .returned (.map (some M)) ∧ SMap w' M f ∧ w.heap.size ≤ M ∧ FinQ a b f = true ∧ Fr (fun _ => False) w w' := by
  have HR : Hid (1 ≤ a ∧ a ≤ 9 ∧ 1 ≤ b ∧ b ≤ 9) := Lib.hid ⟨h1, h2, h3, h4⟩
  have HRN := Lib.hid (fun (z : Int) W => pnext_own z W)
  have hmm := @run_makeMap Try.prog
  obtain ⟨w1, hput, hS1, hF1⟩ := (SMap.made w).put (i := a) (by omega) a
  have HF1 : Hid (Fr (fun _ => False) w w1) := Lib.hid (((Fr.refl (fun _ => False) w).alloc (.map #[] 0)).trans hF1 (fun i hi e => by have e' : i = w.heap.size := e; omega))
  have fb : Fr (fun _ => False) w1 (w1.alloc (.cells #[.int .i64 (a : Int)] 22)) := (Fr.refl _ w1).alloc _
  have HS2 : Hid (SMap (w1.alloc (.cells #[.int .i64 (a : Int)] 22)) w.heap.size (outQ a b 0).1) := Lib.hid (hS1.keep fb (fun q => q))
  have HF2 := Lib.hid (HF1.out.trans fb (fun _ _ q => q))
  have HO2 : Hid (QuS (w1.alloc (.cells #[.int .i64 (a : Int)] 22)) (w.heap.size + 1) (.slice (some ⟨w1.heap.size, 0, none⟩) 1 1) (upN (outQ a b 0).2.1)) := Lib.hid (QuS.new (a : Int) (Nat.succ_le_of_lt hS1.lt) (Blk.new w1 22 #[.int .i64 (a : Int)]))
  clear h1 h2 h3 h4 hS1 hF1 fb
  go_enter Try.func29, Try.ntmps29
  go_wp2_with fail
  go_step3
  go_wp2_with fail
  clear hput hmm
  go_step3
  go_wp2_with fail
  go_loopw [6] (fun o wq => ∃ (ov : Value) (i : Nat), ov = o ∧ Hid (i ≤ 10 ∧ (outQ a b i).2.2 = false) ∧ Hid (SMap wq w.heap.size (outQ a b i).1) ∧ Hid ((∃ A c, ov = .slice A (outQ a b i).2.1.length c) ∧ ((outQ a b i).2.1 ≠ [] → QuS wq (w.heap.size + 1) ov (upN (outQ a b i).2.1))) ∧ Hid (Fr (fun _ => False) w wq)) (fun o wq => measQ a b o wq)
  case atStart => exact ⟨_, 0, rfl, Lib.hid ⟨by omega, rfl⟩, HS2, Lib.hid ⟨⟨_, _, rfl⟩, fun _ => HO2.out⟩, HF2⟩
  case round =>
    clear HF1 HF2 HS2 HO2
    obtain ⟨o, i, ho, HD, HS, HQ, HF⟩ := hrel
    subst ho
    obtain ⟨⟨A, c, rfl⟩, hQ⟩ := HQ.out
    cases hl : (outQ a b i).2.1 with
    | nil =>
      have HFin := Lib.hid (finQ_at HR.out.1 HR.out.2.1 HR.out.2.2.1 HR.out.2.2.2 HD.out.1 (Or.inr hl))
      rw [List.length_nil]
      clear hQ HQ hl
      go_wp2_with fail
      first | rw [Exit.noGoto_ret] | skip
      go_ret
      exact ⟨_, _, rfl, HS.out, Nat.le_refl _, HFin.out, HF.out⟩
    | cons q l =>
      have hQ1 := hQ (by rw [hl]; simp)
      have hq19 := (outQ_facts HR.out.1 HR.out.2.1 HR.out.2.2.1 HR.out.2.2.2 HD.out.1).2 q (by rw [hl]; simp)
      rw [hl] at hQ1
      rw [List.length_cons] at hQ1 ⊢
      have hmeas := measQ_at (a := a) (b := b) hQ1
      rw [idxQ_at HR.out.1 HR.out.2.1 HR.out.2.2.1 HR.out.2.2.2 HD.out.1 HD.out.2 hl] at hmeas
      have hi9 : i ≤ 9 := by
        rcases Nat.lt_or_ge i 10 with h | h
        · omega
        · have : i = 10 := by have := HD.out.1; omega
          subst this
          have := outQ_last HR.out.1 HR.out.2.1 HR.out.2.2.1 HR.out.2.2.2 HD.out.2
          rw [hl] at this
          cases this
      have hnx : outQ a b (i + 1) = if (inQ q b (outQ a b i) 9).2.2 then inQ q b (outQ a b i) 9 else ((inQ q b (outQ a b i) 9).1, (inQ q b (outQ a b i) 9).2.1.tail, false) := by
        show (let st := inQ ((outQ a b i).2.1.headD 0) b (outQ a b i) 9; if st.2.2 then st else (st.1, st.2.1.tail, false)) = _
        rw [hl]
        rfl
      have hpre := inQ_pre q b (outQ a b i) HD.out.2
      have hall := inQ_all q b (outQ a b i) hq19.1 hq19.2
      obtain ⟨g, off, c0, e0, hc0⟩ := hQ1.parts
      injection e0 with e01 e02 e03
      subst e01 e03
      have hns : nextS (q : Int) = upN (nextL q) := by
        unfold nextS
        rw [show mayS (q : Int) = true from decide_eq_true (by omega)]
        rfl
      have HRQ := Lib.hid (HRN.out (q : Int))
      rw [hns] at HRQ
      obtain ⟨ll, hll⟩ : ∃ ll, ll = (upN l).length := ⟨_, rfl⟩
      have HX := Lib.hid (And.intro hq19 (And.intro hmeas (And.intro hi9 (And.intro hnx (And.intro hpre (And.intro hall (And.intro hl hll)))))))
      have HQ1 := Lib.hid hQ1
      have hulen : (upN l).length = l.length := upN_len l
      rw [← hulen, ← hll]
      rw [← hulen, ← hll] at HQ1
      clear hQ HQ hQ1 hq19 hmeas hi9 hnx hpre hall hns hl hulen hll e02
      have hlpos : (0 : Int) < ((ll + 1 : Nat) : Int) := by omega
      go_wp2_with fail
      refine (HRQ.out _).mono ?_
      rintro e w9 ⟨v9, rfl, hv9, f9⟩
      obtain ⟨A9, c9, e9, _⟩ := hv9.slice
      obtain ⟨n, hn⟩ : ∃ n, n = (upN (nextL q)).length := ⟨_, rfl⟩
      rw [← hn] at e9
      subst e9
      obtain ⟨B9, hB9⟩ : ∃ B, B = wr.heap.size := ⟨_, rfl⟩
      rw [← hB9] at hv9
      have hnl : n = (nextL q).length := by rw [hn, upN_len]
      have hglt : g < B9 := by rw [hB9]; exact (HQ1.out.low rfl).2
      have HSZ : Hid (w.heap.size < B9) := Lib.hid (by rw [hB9]; exact HS.out.lt)
      have HS9 : Hid (SMap w9 w.heap.size (inQ q b (outQ a b i) 0).1) := Lib.hid (HS.out.keep f9 (fun q => q))
      have HF9 := Lib.hid (HF.out.trans f9 (fun _ _ q => q))
      have HQ9 : Hid (QuS w9 (w.heap.size + 1) (.slice (some ⟨g, off, none⟩) (ll + 1) c) (upN (inQ q b (outQ a b i) 0).2.1)) := Lib.hid (by rw [inQ_zero, HX.out.2.2.2.2.2.2.1]; exact HQ1.out.keep0 f9)
      have HV9 := Lib.hid hv9
      have HNE9 : Hid (∀ g1, (Value.slice (some ⟨g, off, none⟩) (ll + 1) c).ownBlock = some g1 → (Value.slice A9 n c9).ownBlock ≠ some g1) := Lib.hid (fun g1 e1 e2 => by
        injection e1 with e1
        subst e1
        have h5 : B9 ≤ g := hv9.low e2
        omega)
      have HNL := Lib.hid hnl
      have HN9 : Hid (n ≤ 9) := Lib.hid (by rw [hnl]; exact of_decide_eq_true (all9_of next_len9 HX.out.1.1 HX.out.1.2))
      have HD0 : Hid (0 ≤ n ∧ (inQ q b (outQ a b i) 0).2.2 = false) := Lib.hid ⟨Nat.zero_le _, HD.out.2⟩
      clear hv9 f9 hn hB9 hglt hnl hlpos hc0 HQ1 HS HF HRQ
      go_wp2_with fail
      go_loopw [6, 27] (fun o x wq => ∃ (ov : Value) (k : Nat), ov = o ∧ x = .int .i64 k ∧ Hid (k ≤ n ∧ (inQ q b (outQ a b i) k).2.2 = false) ∧ Hid (SMap wq w.heap.size (inQ q b (outQ a b i) k).1) ∧ Hid (QuS wq (w.heap.size + 1) ov (upN (inQ q b (outQ a b i) k).2.1)) ∧ Hid (RowS wq B9 (.slice A9 n c9) (upN (nextL q))) ∧ Hid (∀ g1, ov.ownBlock = some g1 → (Value.slice A9 n c9).ownBlock ≠ some g1) ∧ Hid (Fr (fun _ => False) w wq)) (fun _ x _ => n - (intOf x).toNat)
      case atStart => exact ⟨_, 0, rfl, rfl, HD0, HS9, HQ9, HV9, HNE9, HF9⟩
      case round =>
        clear HD0 HS9 HQ9 HV9 HNE9 HF9
        obtain ⟨o, k, ho, rfl, HK, HS, HQ, HV, HNE, HF⟩ := hrel
        subst ho
        obtain ⟨l', hl', hlk⟩ := HX.out.2.2.2.2.1 k
        rw [HX.out.2.2.2.2.2.2.1, List.cons_append] at hl'
        obtain ⟨st, hst⟩ : ∃ st, st = inQ q b (outQ a b i) k := ⟨_, rfl⟩
        rw [← hst] at HK HS HQ hl'
        have hq2 := HQ.out
        rw [hl'] at hq2
        obtain ⟨g2, off2, c2, e2, hc2⟩ := QuS.parts (z := (q : Int)) (l := upN (l ++ l')) hq2
        obtain ⟨m2, hm2⟩ : ∃ m, m = (upN (l ++ l')).length + 1 := ⟨_, rfl⟩
        rw [← hm2] at e2
        subst e2
        have hm2p : (0 : Int) < (m2 : Int) := by omega
        have hlk2 : (upN (l ++ l')).length ≤ 100 := by
          have h5 := (outQ_facts HR.out.1 HR.out.2.1 HR.out.2.2.1 HR.out.2.2.2 HD.out.1).1
          rw [HX.out.2.2.2.2.2.2.1, List.length_cons] at h5
          have h6 := HK.out.1
          have h7 := HN9.out
          rw [upN_len, List.length_append]
          omega
        have HST := Lib.hid (And.intro hst (And.intro hl' (And.intro hm2 hlk2)))
        clear hq2 hm2 hst hl' hlk hlk2
        by_cases hkn : k < n
        · obtain ⟨s, hs⟩ : ∃ s, (nextL q)[k]? = some s := ⟨_, List.getElem?_eq_getElem (by rw [← HNL.out]; exact hkn)⟩
          have hs19 := next_nine HX.out.1.1 HX.out.1.2 hs
          obtain ⟨g9, cp9, e9, hc9⟩ := HV.out.cell (upN_get hs)
          injection e9 with e91 e92 e93
          subst e91
          have hstep := inQ_step q b (outQ a b i) k s hs
          rw [← HST.out.1] at hstep
          have HSS := Lib.hid (And.intro hs19 (And.intro hstep hkn))
          have hki : (k : Int) < (n : Int) := by omega
          have hk0 : (0 : Int) ≤ (k : Int) := by omega
          have hn9i : (n : Int) ≤ 9 := by have := HN9.out; omega
          clear hs hs19 hstep hkn e92 e93
          cases hkw : (st.1 s).isSome with
          | true =>
            have HKW := Lib.hid hkw
            have hnx : inQ q b (outQ a b i) (k + 1) = st := by
              rw [HSS.out.2.1]
              unfold stepQ
              rw [HK.out.2, HKW.out]
              simp
            have HNX := Lib.hid hnx
            clear hnx hkw
            go_wp2_with (at_lookup; refine wpList_sm_look rfl (.tmp 32) (.tmp 33) true rfl HS.out rfl rfl (by have := HSS.out.1.2; omega) ?_; rw [HKW.out]; simp only [if_true])
            have hn9 := HN9.out
            have hkl := HSS.out.2.2
            refine ⟨⟨_, k + 1, rfl, by go_num, ?_⟩, ?_⟩
            · rw [HNX.out]
              exact ⟨Lib.hid ⟨HSS.out.2.2, HK.out.2⟩, HS, HQ, HV, HNE, HF⟩
            · simp [intOf]
              have := HSS.out.2.2
              omega
          | false =>
            have HKW := Lib.hid hkw
            clear hkw
            by_cases hsb : s = b
            · subst hsb
              have hnx : inQ q s (outQ a s i) (k + 1) = (updS st.1 s q, st.2.1, true) := by
                rw [HSS.out.2.1]
                unfold stepQ
                rw [HK.out.2, HKW.out]
                simp
              have hdn : (inQ q s (outQ a s i) 9).2.2 = true ∧ inQ q s (outQ a s i) 9 = (updS st.1 s q, st.2.1, true) := by
                have h9 := HX.out.2.2.2.2.2.1
                have h8 := inQ_done q s (outQ a s i) (k := k + 1) (n := (nextL q).length) (by rw [hnx]) (by rw [← HNL.out]; exact HSS.out.2.2)
                rw [← h9, h8, hnx]
                exact ⟨rfl, rfl⟩
              have hout : outQ a s (i + 1) = (updS st.1 s q, st.2.1, true) := by
                rw [HX.out.2.2.2.1, hdn.1, hdn.2]
                rfl
              have HFin : Hid (FinQ a s (updS st.1 s q) = true) := Lib.hid (by
                have := finQ_at HR.out.1 HR.out.2.1 HR.out.2.2.1 HR.out.2.2.2 (i := i + 1) (by have := HX.out.2.2.1; omega) (Or.inl (by rw [hout]))
                rw [hout] at this
                exact this)
              clear hnx hdn hout
              go_wp2_with (first
                | (at_lookup; refine wpList_sm_look rfl (.tmp 32) (.tmp 33) true rfl HS.out rfl rfl (by have := HSS.out.1.2; omega) ?_; rw [HKW.out]; simp only [if_true])
                | (at_mapUpdate; refine wpList_sm_put rfl (.tmp 38) (.tmp 39) (.tmp 42) rfl HS.out rfl rfl (by have := HSS.out.1.2; omega) rfl ?_; intro w6 hS6 f6; have HS6 := Lib.hid hS6; have HF6 := Lib.hid (HF.out.trans f6 (fun i hi e => by have e' : i = w.heap.size := e; omega)); clear hS6 f6))
              first | rw [Exit.noGoto_ret] | skip
              go_ret
              exact ⟨_, _, rfl, HS6.out, Nat.le_refl _, HFin.out, HF6.out⟩
            · have hsbi : ((s : Int) == (b : Int)) = false := by rw [beq_eq_false_iff_ne]; omega
              have hnx : inQ q b (outQ a b i) (k + 1) = (updS st.1 s q, st.2.1 ++ [s], false) := by
                rw [HSS.out.2.1]
                unfold stepQ
                rw [HK.out.2, HKW.out]
                simp [hsb]
              have HNX := Lib.hid hnx
              have HUL : Hid ((upN st.2.1).length ≤ 100000) := Lib.hid (by
                have h5 := HST.out.2.2.2
                rw [upN_len] at h5 ⊢
                rw [HST.out.2.1, List.length_cons]
                omega)
              clear hnx hsb
              go_wp2_with (first
                | (at_lookup; refine wpList_sm_look rfl (.tmp 32) (.tmp 33) true rfl HS.out rfl rfl (by have := HSS.out.1.2; omega) ?_; rw [HKW.out]; simp only [if_true])
                | (at_mapUpdate; refine wpList_sm_put rfl (.tmp 38) (.tmp 39) (.tmp 42) rfl HS.out rfl rfl (by have := HSS.out.1.2; omega) rfl ?_; intro w6 hS6 f6; have HP6 := Lib.hid (And.intro hS6 (And.intro (HQ.out.keep f6 (fun k hk e => by have := (HQ.out.low hk).1; have e' : k = w.heap.size := e; omega)) (And.intro (HV.out.keep f6 (fun k hk e => by have := HV.out.low hk; have := HSZ.out; have e' : k = w.heap.size := e; omega)) (HF.out.trans f6 (fun i hi e => by have e' : i = w.heap.size := e; omega))))); clear hS6 f6; have fb6 : Fr (fun _ => False) w6 (w6.alloc (.cells #[.int .i64 (s : Int)] 22)) := (Fr.refl _ w6).alloc _; have HE6 := Lib.hid (And.intro (HP6.out.1.keep fb6 (fun q => q)) (And.intro (HP6.out.2.1.keep0 fb6) (And.intro (HP6.out.2.2.1.keep0 fb6) (And.intro (HP6.out.2.2.2.trans fb6 (fun _ _ q => q)) ((Blk.new w6 22 #[.int .i64 (s : Int)]).cell 0))))); clear fb6)
                | (at_builtin; refine wpList_push_qu rfl (.tmp 46) (.tmp 48) rfl rfl HE6.out.2.1 rfl HE6.out.2.2.2.2 HUL.out (Nat.succ_le_of_lt HE6.out.1.lt) ?_; intro v7 w7 ho7 hg7 hat7; have HG7 := Lib.hid (And.intro ho7 (And.intro hg7 hat7)); clear ho7 hg7 hat7))
              obtain ⟨ho7, hg7, hat7⟩ := HG7.out
              have f7 := (Fr.refl (fun b1 => (Value.slice (some ⟨g2, off2, none⟩) m2 c2).ownBlock = some b1) _).grown hg7 (fun k hk => .inl hk)
              have hup : upN st.2.1 ++ [(s : Int)] = upN (st.2.1 ++ [s]) := by simp [upN]
              have hn9 := HN9.out
              have hkl := HSS.out.2.2
              refine ⟨⟨_, k + 1, rfl, by go_num, ?_⟩, ?_⟩
              · rw [HNX.out]
                refine ⟨Lib.hid ⟨HSS.out.2.2, rfl⟩, Lib.hid (HE6.out.1.keep f7 (fun e => by have := (HE6.out.2.1.low e).1; omega)), Lib.hid (by rw [← hup]; exact ho7), Lib.hid (HE6.out.2.2.1.keep f7 (fun k hk e => HNE.out k e hk)), Lib.hid (fun g1 e1 e2 => ?_), Lib.hid (HE6.out.2.2.2.1.grown hg7 (fun k hk => .inr (Nat.le_trans (Nat.le_succ _) (HE6.out.2.1.low hk).1)))⟩
                rcases hat7 with h | ⟨kk, h, hkk⟩
                · rw [h] at e1
                  exact HNE.out g1 e1 e2
                · rw [h] at e1
                  injection e1 with e1
                  have h5 := HE6.out.2.2.1.lt_own e2
                  omega
              · simp [intOf]
                have := HSS.out.2.2
                omega
        · obtain rfl : k = n := by have := HK.out.1; omega
          have hin : inQ q b (outQ a b i) 9 = st := by rw [← HX.out.2.2.2.2.2.1, ← HNL.out, HST.out.1]
          have hout : outQ a b (i + 1) = (st.1, st.2.1.tail, false) := by
            rw [HX.out.2.2.2.1, hin, HK.out.2]
            rfl
          have hkk : ¬ (k : Int) < (k : Int) := by omega
          have hq3 := HQ.out
          rw [HST.out.2.1] at hq3
          obtain ⟨v8, hrun8, hsl8, hq8⟩ := QuS.tail (z := (q : Int)) (l := upN (l ++ l')) hq3
          have htl : st.2.1.tail = l ++ l' := by rw [HST.out.2.1]; rfl
          rw [htl] at hout
          have HOUT := Lib.hid hout
          have HQ8 := Lib.hid (And.intro hsl8 hq8)
          clear hkn hin hout hq3 hsl8 hq8 htl
          go_wp2_with fail
          refine ⟨⟨v8, i + 1, rfl, Lib.hid ⟨by have := HX.out.2.2.1; omega, by rw [HOUT.out]⟩, Lib.hid (by rw [HOUT.out]; exact HS.out), Lib.hid ?_, HF⟩, ?_⟩
          · rw [HOUT.out]
            refine ⟨?_, fun hne => ?_⟩
            · obtain ⟨A, c, h⟩ := HQ8.out.1
              exact ⟨A, c, by rw [h, upN_len]⟩
            · refine HQ8.out.2 (fun e => hne ?_)
              have : (upN (l ++ l')).length = 0 := by rw [e]; rfl
              rw [upN_len] at this
              exact List.length_eq_zero_iff.1 this
          · have hm := HX.out.2.1
            have hll := HX.out.2.2.2.2.2.2.2
            rw [upN_len] at hll
            rw [← hll] at hm
            rw [hm]
            have hi9 := HX.out.2.2.1
            cases hL : l ++ l' with
            | nil =>
              obtain ⟨A, c, h⟩ := HQ8.out.1
              rw [hL] at h
              rw [h, show (upN ([] : List Nat)).length = 0 from rfl, measQ_nil]
              omega
            | cons z r =>
              have hq9 := HQ8.out.2
              rw [hL] at hq9
              have hq10 := measQ_at (a := a) (b := b) (hq9 (by simp [upN]))
              rw [idxQ_at HR.out.1 HR.out.2.1 HR.out.2.2.1 HR.out.2.2.2 (i := i + 1) (l := r) (by omega) (by rw [HOUT.out]) (by rw [HOUT.out]; exact hL)] at hq10
              rw [hq10]
              omega
end Go.Proofs.Ythffnepfnadakaa
