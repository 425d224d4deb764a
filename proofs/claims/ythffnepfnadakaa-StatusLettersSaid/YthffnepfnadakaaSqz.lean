/- The call of the landed status: Way. -/
import Derived.Test.YthffnepfnadakaaSqy
namespace Go.Proofs.Ythffnepfnadakaa
open Go.RowKit

theorem backL_self (f : Nat → Option Nat) (a k : Nat) : backL f a (k + 1) a = [a] := by
  rw [backL, if_pos rfl]
theorem backL_ne (f : Nat → Option Nat) {a k s : Nat} (h : s ≠ a) : backL f a (k + 1) s = s :: backL f a k ((f s).getD 0) := by
  rw [backL, if_neg h]
set_option maxRecDepth 100000 in
set_option maxHeartbeats 4000000 in
theorem pway_any (a b : Int) (w : World) : Calls Try.prog 20 #[.int .i64 a, .int .i64 b] w fun e w' => ∃ v, e = .returned (.tuple #[v, .int .i64 (wayE a b : Nat)]) ∧ IntsAt w' v (wayS a b) ∧ Fr (fun _ => False) w w' := by
  have HPA := Lib.hid (pmayNot_any a)
  have HPB := Lib.hid (pmayNot_any b)
  cases hm : mayS a with
  | false =>
    have e1 : wayE a b = 2 := by unfold wayE; rw [hm]; rfl
    have e2 : wayS a b = [] := by unfold wayS; rw [hm]; rfl
    rw [e1, e2]
    rw [hm, Bool.not_false] at HPA
    clear hm e1 e2
    go_enter Try.func20, Try.ntmps20
    go_wp2_with fail
    refine (HPA.out _).mono ?_
    rintro e w' ⟨rfl, rfl⟩
    go_wp2_with fail
    go_ret2
    exact ⟨_, rfl, (RowS.nil _ 0).ints, Fr.refl _ _⟩
  | true =>
    rw [hm, Bool.not_true] at HPA
    cases hn : mayS b with
    | false =>
      have e1 : wayE a b = 2 := by unfold wayE; rw [hm, hn]; rfl
      have e2 : wayS a b = [] := by unfold wayS; rw [hm, hn]; rfl
      rw [e1, e2]
      rw [hn, Bool.not_false] at HPB
      clear hm hn e1 e2
      go_enter Try.func20, Try.ntmps20
      go_wp2_with fail
      refine (HPA.out _).mono ?_
      rintro e w' ⟨rfl, rfl⟩
      go_wp2_with fail
      refine (HPB.out _).mono ?_
      rintro e w' ⟨rfl, rfl⟩
      go_wp2_with fail
      go_ret2
      exact ⟨_, rfl, (RowS.nil _ 0).ints, Fr.refl _ _⟩
    | true =>
      rw [hn, Bool.not_true] at HPB
      have hr : 1 ≤ a ∧ a ≤ 9 := of_decide_eq_true hm
      have hs : 1 ≤ b ∧ b ≤ 9 := of_decide_eq_true hn
      obtain ⟨ka, rfl⟩ : ∃ k : Nat, a = k := ⟨a.toNat, by omega⟩
      obtain ⟨kb, rfl⟩ : ∃ k : Nat, b = k := ⟨b.toNat, by omega⟩
      obtain ⟨E, hE⟩ : ∃ E, E = wayE ka kb := ⟨_, rfl⟩
      have hS : wayS ka kb = upN (wayL ka kb) := by unfold wayS; rw [hm, hn]; rfl
      have hE2 : E = if (wayL ka kb).isEmpty then 9 else 0 := by rw [hE]; unfold wayE; rw [hm, hn]; rfl
      rw [← hE, hS]
      have HR : Hid (1 ≤ ka ∧ ka ≤ 9 ∧ 1 ≤ kb ∧ kb ≤ 9) := Lib.hid (by omega)
      have HEE := Lib.hid hE2
      have HPS := Lib.hid (psearch_any (a := ka) (b := kb) (by omega) (by omega) (by omega) (by omega) w)
      clear hm hn hr hs hE hS hE2
      go_enter Try.func20, Try.ntmps20
      go_wp2_with fail
      refine (HPA.out _).mono ?_
      rintro e w' ⟨rfl, rfl⟩
      go_wp2_with fail
      refine (HPB.out _).mono ?_
      rintro e w' ⟨rfl, rfl⟩
      go_wp2_with fail
      refine (HPS.out).mono ?_
      rintro e w2 ⟨M, f, rfl, hs2, hM2, hfin, f2⟩
      have HS2 := Lib.hid hs2
      have HF2 := Lib.hid f2
      have hfin2 := hfin
      unfold FinQ at hfin2
      rw [Bool.and_eq_true, beq_iff_eq] at hfin2
      have HB := Lib.hid hM2
      clear hs2 f2 hfin hM2
      cases hfb : (f kb).isSome with
      | false =>
        have hem : (wayL ka kb).isEmpty = true := by have := hfin2.1; rw [hfb] at this; simpa using this.symm
        have HK := Lib.hid hfb
        have hW := List.isEmpty_iff.1 hem
        have HW := Lib.hid hW
        obtain rfl : E = 9 := by rw [HEE.out, hem]; rfl
        clear hfin2 hem hfb hW HEE
        go_wp2_with (at_lookup; refine wpList_sm_look rfl (.tmp 21) (.tmp 22) true rfl HS2.out rfl rfl (by have := HR.out; omega) ?_; rw [HK.out]; simp only [if_true])
        go_ret2
        exact ⟨_, rfl, by rw [HW.out]; exact (RowS.nil _ 0).ints, HF2.out⟩
      | true =>
        have hem : (wayL ka kb).isEmpty = false := by have := hfin2.1; rw [hfb] at this; simpa using this.symm
        have hback : backL f ka 10 kb = (wayL ka kb).reverse := by have := hfin2.2; rw [hfb] at this; simpa using this
        have HK := Lib.hid hfb
        obtain rfl : E = 0 := by rw [HEE.out, hem]; rfl
        have HBK := Lib.hid hback
        have HL9 := Lib.hid (way_len9 HR.out.1 HR.out.2.1 HR.out.2.2.1 HR.out.2.2.2)
        have HM9 := Lib.hid (way_mem9 HR.out.1 HR.out.2.1 HR.out.2.2.1 HR.out.2.2.2)
        have HEM := Lib.hid hem
        clear hfin2 hem hfb hback HEE
        go_wp2_with (at_lookup; refine wpList_sm_look rfl (.tmp 21) (.tmp 22) true rfl HS2.out rfl rfl (by have := HR.out; omega) ?_; rw [HK.out]; simp only [if_true])
        have fb : Fr (fun _ => False) w2 (w2.alloc (.cells #[.int .i64 (kb : Int)] 22)) := (Fr.refl _ w2).alloc _
        have HO0 : Hid (RowS (w2.alloc (.cells #[.int .i64 (kb : Int)] 22)) (M + 1) (.slice (some ⟨w2.heap.size, 0, none⟩) 1 1) (upN [kb])) := Lib.hid ⟨rfl, .inr ⟨w2.heap.size, 1, _, rfl, Nat.succ_le_of_lt HS2.out.lt, Blk.new w2 22 #[.int .i64 (kb : Int)], by simp [upN], by simp [maxLen], rfl, rfl⟩⟩
        have HS0 := Lib.hid (HS2.out.keep fb (fun q => q))
        have HF0 := Lib.hid (HF2.out.trans fb (fun _ _ q => q))
        clear fb
        go_loopw [9, 10] (fun o x wq => ∃ (ov : Value) (s k : Nat) (l : List Nat), ov = o ∧ x = .int .i64 s ∧ Hid (RowS wq (M + 1) ov (upN (l ++ [s])) ∧ SMap wq M f ∧ Fr (fun _ => False) w' wq) ∧ Hid (l ++ backL f ka (k + 1) s = (wayL ka kb).reverse ∧ l.length + k = 9)) (fun o _ _ => 100 - (match o with | .slice _ n _ => n | _ => 0))
        case atStart => exact ⟨_, kb, 9, [], rfl, rfl, Lib.hid ⟨HO0.out, HS0.out, HF0.out⟩, Lib.hid ⟨HBK.out, rfl⟩⟩
        case round =>
          clear HO0 HS0 HF0 HBK HS2 HF2
          obtain ⟨o, s, k, l, ho, rfl, HO, HC⟩ := hrel
          subst ho
          obtain ⟨A5, c5, hof, _⟩ := HO.out.1.slice
          obtain ⟨n5, hn5⟩ : ∃ n, n = (upN (l ++ [s])).length := ⟨_, rfl⟩
          rw [← hn5] at hof
          subst hof
          have HN5 := Lib.hid hn5
          clear hn5
          have hmem : s ∈ wayL ka kb := by
            have h5 := HC.out.1
            rw [← List.mem_reverse, ← h5]
            refine List.mem_append_right _ ?_
            rw [backL]
            split <;> simp
          have HS9 := Lib.hid (HM9.out s hmem)
          clear hmem
          by_cases hsa : s = ka
          · have hne : ((s : Int) != (ka : Int)) = false := by rw [bne_eq_false_iff_eq]; omega
            have hlr : l ++ [s] = (wayL ka kb).reverse := by
              have h5 := HC.out.1
              rw [show backL f ka (k + 1) s = [s] from by rw [hsa]; exact backL_self f ka k] at h5
              exact h5
            have HRV := Lib.hid (prev_any HO.out.1 (by simp [upN]))
            have hrr : (upN (l ++ [s])).reverse = upN (wayL ka kb) := by
              rw [hlr]
              simp [upN]
            have HRR := Lib.hid hrr
            have HLO := Lib.hid (fun kk hk => HO.out.1.low (k := kk) hk)
            clear hsa hlr hrr
            go_wp2_with fail
            refine (HRV.out).mono ?_
            rintro e w6 ⟨rfl, ho6, f6⟩
            rw [HRR.out] at ho6
            have HO6 := Lib.hid ho6
            have HF6 := Lib.hid (HO.out.2.2.trans f6 (fun i hi e => by have h5 := HLO.out i e; have h6 := HB.out; omega))
            clear ho6 f6
            go_wp2_with fail
            go_ret2
            exact ⟨_, rfl, HO6.out.ints, HF6.out⟩
          · have hne : ((s : Int) != (ka : Int)) = true := by rw [bne_iff_ne]; omega
            have hch := backL_ne f (a := ka) (k := k) hsa
            have hk0 : k ≠ 0 := by
              intro h0
              subst h0
              have h5 := HC.out.1
              rw [hch, backL] at h5
              have h6 := HL9.out
              have h7 := congrArg List.length h5
              rw [List.length_append, List.length_reverse] at h7
              have h8 := HC.out.2
              simp at h7
              omega
            obtain ⟨k', rfl⟩ : ∃ k', k = k' + 1 := ⟨k - 1, by omega⟩
            obtain ⟨s', hs'⟩ : ∃ s', s' = (f s).getD 0 := ⟨_, rfl⟩
            rw [← hs'] at hch
            have HC2 : Hid ((l ++ [s]) ++ backL f ka (k' + 1) s' = (wayL ka kb).reverse ∧ (l ++ [s]).length + k' = 9) := Lib.hid ⟨by rw [← HC.out.1, hch]; simp, by have := HC.out.2; rw [List.length_append]; simp; omega⟩
            have HSP := Lib.hid hs'.symm
            have HLL : Hid ((upN (l ++ [s])).length ≤ 100000) := Lib.hid (by rw [upN_len, List.length_append]; have := HC.out.2; simp; omega)
            have fb : Fr (fun _ => False) wr (wr.alloc (.cells #[.int .i64 (s' : Int)] 22)) := (Fr.refl _ wr).alloc _
            have HE5 := Lib.hid (And.intro (HO.out.1.keep0 fb) (And.intro (HO.out.2.2.trans fb (fun _ _ q => q)) (And.intro ((Blk.new wr 22 #[.int .i64 (s' : Int)]).cell 0) (And.intro (HO.out.2.1.keep fb (fun q => q)) fb.size))))
            clear hsa hch hk0 fb HC hs'
            go_wp2_with (first
              | (at_lookup; refine wpList_sm_look rfl (.tmp 34) (.tmp 35) false rfl HO.out.2.1 rfl rfl (by have := HS9.out.2; omega) ?_; simp only [Bool.false_eq_true, if_false]; rw [HSP.out])
              | (at_builtin; refine wpList_push_st rfl (.tmp 37) (.tmp 39) rfl rfl HE5.out.1 rfl HE5.out.2.2.1 HLL.out (Nat.succ_le_of_lt HE5.out.2.2.2.1.lt) ?_; intro v6 w6 ho6 hg6 hat6; have HG6 := Lib.hid (And.intro ho6 (And.intro (HE5.out.2.1.grown hg6 (fun k hk => .inr (by have h5 := HE5.out.1.low hk; have h6 := HB.out; omega))) (HE5.out.2.2.2.1.keep ((Fr.refl (fun b => (Value.slice A5 n5 c5).ownBlock = some b) _).grown hg6 (fun k hk => .inl hk)) (fun q => by have := HE5.out.1.low q; omega)))); clear ho6 hg6 hat6))
            obtain ⟨A6, c6, hof6, _⟩ := HG6.out.1.slice
            subst hof6
            have hup : upN (l ++ [s]) ++ [(s' : Int)] = upN ((l ++ [s]) ++ [s']) := by simp [upN]
            refine ⟨⟨_, s', k', l ++ [s], rfl, rfl, Lib.hid ⟨by rw [← hup]; exact HG6.out.1, HG6.out.2.2, HG6.out.2.1⟩, HC2⟩, ?_⟩
            show 100 - (upN (l ++ [s]) ++ [(s' : Int)]).length < 100 - n5
            have h5 := HN5.out
            have h6 := HC2.out.2
            rw [upN_len] at h5
            rw [List.length_append, upN_len, List.length_singleton]
            omega
end Go.Proofs.Ythffnepfnadakaa
