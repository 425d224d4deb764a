/- fare's May, mayOut, Rate, Take, Sum, weigh: what they answer. -/
import Derived.Test.YtfonchobolhkoaaDoorFpr
namespace Go.Proofs.YtfonchobolhkoaaDoor
open Go.RowKit

theorem pmay_any (n : Int) (w : World) : Calls Tryd.prog 19 #[.int .i64 n] w fun e w' => e = .returned (.bool (mayF n)) ∧ w' = w := by
  by_cases h1 : n ≥ -1000000000000
  · by_cases h2 : n ≤ 1000000000000
    · have hm : mayF n = true := decide_eq_true ⟨h1, h2⟩
      rw [hm]
      go_enter Tryd.func19, Tryd.ntmps19
      go_wp2_with fail
      go_ret
      exact ⟨rfl, rfl⟩
    · have hm : mayF n = false := decide_eq_false (fun q => h2 q.2)
      rw [hm]
      go_enter Tryd.func19, Tryd.ntmps19
      go_wp2_with fail
      go_ret
      exact ⟨rfl, rfl⟩
  · have hm : mayF n = false := decide_eq_false (fun q => h1 q.1)
    rw [hm]
    go_enter Tryd.func19, Tryd.ntmps19
    go_wp2_with fail
    go_ret
    exact ⟨rfl, rfl⟩
/-- An amount of nought or more. -/
def mayO (n : Int) : Bool := decide (0 ≤ n ∧ n ≤ 1000000000000)
theorem pmayo_any (n : Int) (w : World) : Calls Tryd.prog 27 #[.int .i64 n] w fun e w' => e = .returned (.bool (mayO n)) ∧ w' = w := by
  by_cases h1 : n ≥ 0
  · have hm : mayO n = mayF n := by
      unfold mayO mayF
      congr 1
      apply propext
      omega
    have h := pmay_any n
    rw [hm]
    generalize mayF n = b at h ⊢
    go_enter Tryd.func27, Tryd.ntmps27
    go_wp2_with fail
    refine (h _).mono ?_
    rintro e w1 ⟨rfl, rfl⟩
    cases b with
    | true =>
      go_wp2_with fail
      go_ret
      exact ⟨rfl, rfl⟩
    | false =>
      go_wp2_with fail
      go_ret
      exact ⟨rfl, rfl⟩
  · have hm : mayO n = false := decide_eq_false (fun q => h1 q.1)
    rw [hm]
    go_enter Tryd.func27, Tryd.ntmps27
    go_wp2_with fail
    go_ret
    exact ⟨rfl, rfl⟩
set_option maxRecDepth 100000 in
theorem prate_any (a r : Int) (w : World) : Calls Tryd.prog 20 #[.int .i64 a, .int .i64 r] w fun e w' => e = .returned (.tuple #[.int .i64 (rateR a r), .int .i64 (rateE a r : Nat)]) ∧ Fr (fun _ => False) w w' := by
  have h := pmayo_any a
  by_cases h1 : 0 ≤ a ∧ a ≤ 1000000000000
  · have hm : mayO a = true := decide_eq_true h1
    rw [hm] at h
    by_cases h2 : r < 0
    · have e1 : rateE a r = 5 := by unfold rateE; rw [if_pos h1, if_neg (by omega)]
      have e2 : rateR a r = 0 := by unfold rateR; rw [e1]; rfl
      rw [e1, e2]
      clear h1 hm e1 e2
      go_enter Tryd.func20, Tryd.ntmps20
      go_wp2_with fail
      refine (h _).mono ?_
      rintro e w1 ⟨rfl, rfl⟩
      go_wp2_with fail
      go_ret2
      exact ⟨rfl, Fr.refl _ _⟩
    · by_cases h3 : r > 10000
      · have e1 : rateE a r = 5 := by unfold rateE; rw [if_pos h1, if_neg (by omega)]
        have e2 : rateR a r = 0 := by unfold rateR; rw [e1]; rfl
        rw [e1, e2]
        clear h1 hm e1 e2
        go_enter Tryd.func20, Tryd.ntmps20
        go_wp2_with fail
        refine (h _).mono ?_
        rintro e w1 ⟨rfl, rfl⟩
        go_wp2_with fail
        go_ret2
        exact ⟨rfl, Fr.refl _ _⟩
      · have e1 : rateE a r = 0 := by unfold rateE; rw [if_pos h1, if_pos (by omega)]
        have e2 : rateR a r = a * r / 10000 := by unfold rateR; rw [e1]; rfl
        rw [e1, e2]
        obtain ⟨n, rfl⟩ : ∃ n : Nat, a = n := ⟨a.toNat, by omega⟩
        obtain ⟨k, rfl⟩ : ∃ k : Nat, r = k := ⟨r.toNat, by omega⟩
        obtain ⟨p, hp⟩ : ∃ p, p = n * k := ⟨_, rfl⟩
        have hpb : p ≤ 1000000000000 * 10000 := by rw [hp]; exact Nat.mul_le_mul (by omega) (by omega)
        have hpi : (n : Int) * (k : Int) = (p : Int) := by rw [hp]; exact (Int.natCast_mul n k).symm
        have hz : wrap64 ((wrap64 ((n : Int) * (k : Int))).tdiv 10000) = (n : Int) * (k : Int) / 10000 := by
          rw [hpi, show wrap64 (p : Int) = (p : Int) from wrap64_id (by omega) (by omega), Int.tdiv_eq_ediv_of_nonneg (by omega)]
          exact wrap64_id (by omega) (by omega)
        have HZ := Lib.hid hz
        generalize (n : Int) * (k : Int) / 10000 = z at HZ ⊢
        have h1' : (0 : Int) ≤ (n : Int) := by omega
        clear hp hpb hpi hz h1 hm e1 e2
        go_enter Tryd.func20, Tryd.ntmps20
        go_wp2_with fail
        refine (h _).mono ?_
        rintro e w1 ⟨rfl, rfl⟩
        go_wp2_with fail
        go_ret2
        refine ⟨?_, Fr.refl _ _⟩
        show Ending.returned (.tuple #[.int .i64 (wrap64 ((wrap64 ((n : Int) * (k : Int))).tdiv 10000)), .int .i64 0]) = _
        rw [HZ.out]
        rfl
  · have hm : mayO a = false := decide_eq_false h1
    rw [hm] at h
    have e1 : rateE a r = 14 := by unfold rateE; rw [if_neg h1]
    have e2 : rateR a r = 0 := by unfold rateR; rw [e1]; rfl
    rw [e1, e2]
    clear h1 hm e1 e2
    go_enter Tryd.func20, Tryd.ntmps20
    go_wp2_with fail
    refine (h _).mono ?_
    rintro e w1 ⟨rfl, rfl⟩
    go_wp2_with fail
    go_ret2
    exact ⟨rfl, Fr.refl _ _⟩
set_option maxRecDepth 100000 in
theorem ptake_any (h x : Int) (w : World) : Calls Tryd.prog 21 #[.int .i64 h, .int .i64 x] w fun e w' => e = .returned (.tuple #[.int .i64 (takeR h x).1, .int .i64 (takeR h x).2, .int .i64 (takeE h x : Nat)]) ∧ Fr (fun _ => False) w w' := by
  have c1 := pmayo_any h
  have c2 := pmayo_any x
  by_cases h1 : 0 ≤ h ∧ h ≤ 1000000000000
  · rw [show mayO h = true from decide_eq_true h1] at c1
    by_cases h2 : 0 ≤ x ∧ x ≤ 1000000000000
    · rw [show mayO x = true from decide_eq_true h2] at c2
      have e1 : takeE h x = 0 := by unfold takeE; rw [if_pos ⟨h1, h2⟩]
      by_cases h3 : h ≤ x
      rotate_left
      · have e2 : takeR h x = (x, h - x) := by unfold takeR; rw [e1, if_pos rfl, if_pos (by omega)]
        rw [e1, e2]
        have hz : wrap64 (h - x) = h - x := wrap64_id (by omega) (by omega)
        have hmin : min h x = x := by omega
        clear h1 h2 e1 e2
        go_enter Tryd.func21, Tryd.ntmps21
        go_wp2_with fail
        refine (c1 _).mono ?_
        rintro e w1 ⟨rfl, rfl⟩
        go_wp2_with fail
        refine (c2 _).mono ?_
        rintro e w1 ⟨rfl, rfl⟩
        go_wp2_with fail
        go_ret3
        refine ⟨?_, Fr.refl _ _⟩
        show Ending.returned (.tuple #[.int .i64 x, .int .i64 (wrap64 (h - x)), .int .i64 0]) = _
        rw [hz]
        rfl
      · have e2 : takeR h x = (h, 0) := by
          unfold takeR
          rw [e1, if_pos rfl]
          split
          · obtain rfl : h = x := by omega
            rw [Int.sub_self]
          · rfl
        rw [e1, e2]
        have hmin : min h x = h := by omega
        clear h1 h2 e1 e2
        go_enter Tryd.func21, Tryd.ntmps21
        go_wp2_with fail
        refine (c1 _).mono ?_
        rintro e w1 ⟨rfl, rfl⟩
        go_wp2_with fail
        refine (c2 _).mono ?_
        rintro e w1 ⟨rfl, rfl⟩
        go_wp2_with fail
        go_ret3
        exact ⟨rfl, Fr.refl _ _⟩
    · rw [show mayO x = false from decide_eq_false h2] at c2
      have e1 : takeE h x = 14 := by unfold takeE; rw [if_neg (fun q => h2 q.2)]
      have e2 : takeR h x = (0, 0) := by unfold takeR; rw [e1]; rfl
      rw [e1, e2]
      clear h1 h2 e1 e2
      go_enter Tryd.func21, Tryd.ntmps21
      go_wp2_with fail
      refine (c1 _).mono ?_
      rintro e w1 ⟨rfl, rfl⟩
      go_wp2_with fail
      refine (c2 _).mono ?_
      rintro e w1 ⟨rfl, rfl⟩
      go_wp2_with fail
      go_ret3
      exact ⟨rfl, Fr.refl _ _⟩
  · rw [show mayO h = false from decide_eq_false h1] at c1
    have e1 : takeE h x = 14 := by unfold takeE; rw [if_neg (fun q => h1 q.1)]
    have e2 : takeR h x = (0, 0) := by unfold takeR; rw [e1]; rfl
    rw [e1, e2]
    clear h1 e1 e2
    go_enter Tryd.func21, Tryd.ntmps21
    go_wp2_with fail
    refine (c1 _).mono ?_
    rintro e w1 ⟨rfl, rfl⟩
    go_wp2_with fail
    go_ret3
    exact ⟨rfl, Fr.refl _ _⟩
set_option maxRecDepth 100000 in
set_option maxHeartbeats 1000000 in
theorem psum_any {w : World} {v : Value} {zs : List Int} (hv : IntsAt w v zs) (hl : zs.length ≤ 100000) : Calls Tryd.prog 18 #[v] w fun e w' => e = .returned (.tuple #[.int .i64 (sumR zs), .int .i64 (sumE zs : Nat)]) ∧ Fr (fun _ => False) w w' := by
  obtain ⟨A, c1, rfl, hc1, hA⟩ := hv
  obtain ⟨m, hm⟩ : ∃ m, m = zs.length := ⟨_, rfl⟩
  obtain ⟨E, hE⟩ : ∃ E, E = sumE zs := ⟨_, rfl⟩
  obtain ⟨R, hR⟩ : ∃ R, R = sumR zs := ⟨_, rfl⟩
  rw [← hE, ← hR, ← hm]
  have hRE : R = if E = 0 then sumI zs else 0 := by rw [hR, hE]; rfl
  have H0 := Lib.hid (And.intro hA (And.intro hm hRE))
  have HM := Lib.hid (fun z W => pmay_any z W)
  unfold sumE at hE
  rw [← hm] at hE
  by_cases h1 : 1000 < m
  · have h1i : (m : Int) > 1000 := by omega
    rw [if_pos h1] at hE
    subst hE
    have e2 : R = 0 := by rw [hRE, if_neg (by omega)]
    subst e2
    clear hA hm hR hRE hc1 hl h1 H0
    go_enter Tryd.func18, Tryd.ntmps18
    go_wp2_with fail
    go_ret2
    exact ⟨rfl, Fr.refl _ _⟩
  · have h1i : ¬ (m : Int) > 1000 := by omega
    rw [if_neg h1] at hE
    have HE := Lib.hid hE
    have hm9 : m ≤ 1000 := by omega
    clear hA hm hR hRE hc1 hl h1 hE
    go_enter Tryd.func18, Tryd.ntmps18
    go_wp2_with fail
    go_loopw [4, 12] (fun y x wr => wr = w ∧ ∃ k : Nat, x = .int .i64 k ∧ k ≤ m ∧ ∃ t : Int, y = .int .i64 t ∧ -(k * 1000000000000 : Int) ≤ t ∧ t ≤ k * 1000000000000 ∧ Hid (t = sumI (zs.take k) ∧ (zs.take k).all mayF = true)) (fun _ x _ => m - (intOf x).toNat)
    case atStart => exact ⟨rfl, 0, rfl, Nat.zero_le _, 0, rfl, by omega, by omega, Lib.hid ⟨rfl, rfl⟩⟩
    case round =>
      obtain ⟨rfl, k, rfl, hk, t, rfl, ht0, ht1, HT⟩ := hrel
      by_cases hlt : k < m
      · obtain ⟨hA, hm, hRE⟩ := H0.out
        obtain ⟨z1, hz1⟩ : ∃ z1, zs[k]? = some z1 := ⟨_, List.getElem?_eq_getElem (by omega)⟩
        obtain ⟨b1, o1, rfl, hcA⟩ := hA (by omega)
        have hd1 := hcA k z1 hz1
        have htk : zs.take (k + 1) = zs.take k ++ [z1] := by rw [List.take_add_one, hz1]; rfl
        have hk0 : (0 : Int) ≤ (k : Int) := by omega
        have hkm : (k : Int) < (m : Int) := by omega
        have HM1 := Lib.hid (HM.out z1)
        cases hmz : mayF z1 with
        | false =>
          have hb : zs.all mayF = false := by
            rw [List.all_eq_false]
            exact ⟨z1, List.mem_of_getElem? hz1, by rw [hmz]; simp⟩
          have hE := HE.out
          rw [hb] at hE
          have e1 : E = 14 := by rw [hE]; rfl
          have e2 : R = 0 := by rw [hRE, e1]; rfl
          rw [hmz] at HM1
          subst e1 e2
          clear hA hm hRE hz1 hcA htk HT HE hb hE hmz hlt H0
          go_wp2_with fail
          refine (HM1.out _).mono ?_
          rintro e w1 ⟨rfl, rfl⟩
          go_wp2_with fail
          go_ret2
          exact ⟨rfl, Fr.refl _ _⟩
        | true =>
          have hzb : -1000000000000 ≤ z1 ∧ z1 ≤ 1000000000000 := of_decide_eq_true hmz
          have HX : Hid (t + z1 = sumI (zs.take (k + 1)) ∧ (zs.take (k + 1)).all mayF = true) := Lib.hid ⟨by rw [htk, sumI_snoc, HT.out.1], by rw [htk, List.all_append, HT.out.2]; simp [hmz]⟩
          obtain ⟨hz0, hz9⟩ := hzb
          have ht2 : -1000000000000000 ≤ t := by omega
          have ht3 : t ≤ 1000000000000000 := by omega
          rw [hmz] at HM1
          have HB := Lib.hid (And.intro ht0 (And.intro ht1 hlt))
          clear hA hm hRE hz1 hcA htk HT hlt hmz ht0 ht1
          go_wp2_with fail
          refine (HM1.out _).mono ?_
          rintro e w1 ⟨rfl, rfl⟩
          go_wp2_with fail
          have := HB.out
          exact ⟨⟨trivial, k + 1, by go_num, by omega, t + z1, rfl, by omega, by omega, HX⟩, by simp [intOf]; omega⟩
      · obtain rfl : k = m := by omega
        have hall : zs.take k = zs := by rw [List.take_of_length_le (by rw [← H0.out.2.1]; exact Nat.le_refl _)]
        have hT := HT.out
        rw [hall] at hT
        have HM1 := Lib.hid (HM.out t)
        have hE := HE.out
        rw [hT.2, ← hT.1, Bool.true_and] at hE
        have hRE := H0.out.2.2
        rw [← hT.1] at hRE
        cases hmz : mayF t with
        | false =>
          rw [hmz] at hE HM1
          have e1 : E = 14 := by rw [hE]; rfl
          have e2 : R = 0 := by rw [hRE, e1]; rfl
          subst e1 e2
          clear hlt hall hT hE hRE hmz ht0 ht1 HE H0 HT
          go_wp2_with fail
          refine (HM1.out _).mono ?_
          rintro e w1 ⟨rfl, rfl⟩
          go_wp2_with fail
          go_ret2
          exact ⟨rfl, Fr.refl _ _⟩
        | true =>
          rw [hmz] at hE HM1
          have e1 : E = 0 := by rw [hE]; rfl
          have e2 : R = t := by rw [hRE, e1]; rfl
          subst e1 e2
          clear hlt hall hT hE hRE hmz ht0 ht1 HE H0 HT
          go_wp2_with fail
          refine (HM1.out _).mono ?_
          rintro e w1 ⟨rfl, rfl⟩
          go_wp2_with fail
          go_ret2
          exact ⟨rfl, Fr.refl _ _⟩
/-- All weights together, and which error. -/
def weighE (zs : List Int) : Nat := if 64 < zs.length then 3 else if mayW zs = false then 2 else 0
def weighR (zs : List Int) : Int := if weighE zs = 0 then sumI zs else 0
set_option maxRecDepth 100000 in
set_option maxHeartbeats 1000000 in
theorem pweigh_any {w : World} {v : Value} {zs : List Int} (hv : IntsAt w v zs) (hl : zs.length ≤ 100000) : Calls Tryd.prog 26 #[v] w fun e w' => e = .returned (.tuple #[.int .i64 (weighR zs), .int .i64 (weighE zs : Nat)]) ∧ w' = w := by
  obtain ⟨A, c1, rfl, hc1, hA⟩ := hv
  obtain ⟨m, hm⟩ : ∃ m, m = zs.length := ⟨_, rfl⟩
  obtain ⟨E, hE⟩ : ∃ E, E = weighE zs := ⟨_, rfl⟩
  obtain ⟨R, hR⟩ : ∃ R, R = weighR zs := ⟨_, rfl⟩
  rw [← hE, ← hR, ← hm]
  have hRE : R = if E = 0 then sumI zs else 0 := by rw [hR, hE]; rfl
  have H0 := Lib.hid (And.intro hA (And.intro hm hRE))
  have HM := Lib.hid (fun z W => pmayo_any z W)
  unfold weighE at hE
  rw [← hm] at hE
  by_cases h1 : 64 < m
  · have h1i : (m : Int) > 64 := by omega
    rw [if_pos h1] at hE
    subst hE
    have e2 : R = 0 := by rw [hRE, if_neg (by omega)]
    subst e2
    clear hA hm hR hRE hc1 hl h1 H0
    go_enter Tryd.func26, Tryd.ntmps26
    go_wp2_with fail
    go_ret2
    exact ⟨rfl, rfl⟩
  · have h1i : ¬ (m : Int) > 64 := by omega
    rw [if_neg h1] at hE
    have HE := Lib.hid hE
    have hm9 : m ≤ 64 := by omega
    clear hA hm hR hRE hc1 hl h1 hE
    go_enter Tryd.func26, Tryd.ntmps26
    go_wp2_with fail
    go_loopw [4, 12] (fun y x wr => wr = w ∧ ∃ k : Nat, x = .int .i64 k ∧ k ≤ m ∧ ∃ t : Int, y = .int .i64 t ∧ 0 ≤ t ∧ t ≤ k * 1000000000000 ∧ Hid (t = sumI (zs.take k) ∧ (zs.take k).all okW = true ∧ (t = 0 → (zs.take k).any posW = false) ∧ (0 < t → (zs.take k).any posW = true))) (fun _ x _ => m - (intOf x).toNat)
    case atStart => exact ⟨rfl, 0, rfl, Nat.zero_le _, 0, rfl, by omega, by omega, Lib.hid ⟨rfl, rfl, fun _ => rfl, fun h => absurd h (by omega)⟩⟩
    case round =>
      obtain ⟨rfl, k, rfl, hk, t, rfl, ht0, ht1, HT⟩ := hrel
      by_cases hlt : k < m
      · obtain ⟨hA, hm, hRE⟩ := H0.out
        obtain ⟨z1, hz1⟩ : ∃ z1, zs[k]? = some z1 := ⟨_, List.getElem?_eq_getElem (by omega)⟩
        obtain ⟨b1, o1, rfl, hcA⟩ := hA (by omega)
        have hd1 := hcA k z1 hz1
        have htk : zs.take (k + 1) = zs.take k ++ [z1] := by rw [List.take_add_one, hz1]; rfl
        have hk0 : (0 : Int) ≤ (k : Int) := by omega
        have hkm : (k : Int) < (m : Int) := by omega
        have HM1 := Lib.hid (HM.out z1)
        cases hmz : mayO z1 with
        | false =>
          have hb : mayW zs = false := by
            have : zs.all okW = false := by
              rw [List.all_eq_false]
              exact ⟨z1, List.mem_of_getElem? hz1, by rw [show okW z1 = mayO z1 from rfl, hmz]; simp⟩
            unfold mayW
            rw [this]
            rfl
          have hE := HE.out
          rw [hb] at hE
          have e1 : E = 2 := by rw [hE]; rfl
          have e2 : R = 0 := by rw [hRE, e1]; rfl
          rw [hmz] at HM1
          subst e1 e2
          clear hA hm hRE hz1 hcA htk HT HE hb hE hmz hlt H0
          go_wp2_with fail
          refine (HM1.out _).mono ?_
          rintro e w1 ⟨rfl, rfl⟩
          go_wp2_with fail
          go_ret2
          exact ⟨rfl, rfl⟩
        | true =>
          have hzb : 0 ≤ z1 ∧ z1 ≤ 1000000000000 := of_decide_eq_true hmz
          have HX : Hid (t + z1 = sumI (zs.take (k + 1)) ∧ (zs.take (k + 1)).all okW = true ∧ (t + z1 = 0 → (zs.take (k + 1)).any posW = false) ∧ (0 < t + z1 → (zs.take (k + 1)).any posW = true)) := Lib.hid ⟨by rw [htk, sumI_snoc, HT.out.1], by rw [htk, List.all_append, HT.out.2.1]; simp [show okW z1 = mayO z1 from rfl, hmz], fun h => by
            rw [htk, List.any_append, HT.out.2.2.1 (by omega)]
            simp [posW]
            omega, fun h => by
            rw [htk, List.any_append]
            by_cases hp : 0 < t
            · rw [HT.out.2.2.2 hp]
              rfl
            · simp [posW]
              right
              omega⟩
          obtain ⟨hz0, hz9⟩ := hzb
          have ht3 : t ≤ 1000000000000000 := by omega
          rw [hmz] at HM1
          have HB := Lib.hid (And.intro ht1 hlt)
          clear hA hm hRE hz1 hcA htk HT hlt hmz ht1
          go_wp2_with fail
          refine (HM1.out _).mono ?_
          rintro e w1 ⟨rfl, rfl⟩
          go_wp2_with fail
          have := HB.out
          exact ⟨⟨trivial, k + 1, by go_num, by omega, t + z1, rfl, by omega, by omega, HX⟩, by simp [intOf]; omega⟩
      · obtain rfl : k = m := by omega
        have hall : zs.take k = zs := by rw [List.take_of_length_le (by rw [← H0.out.2.1]; exact Nat.le_refl _)]
        have hT := HT.out
        rw [hall] at hT
        have hE := HE.out
        have hRE := H0.out.2.2
        rw [← hT.1] at hRE
        by_cases h0 : t = 0
        · have hw : mayW zs = false := by unfold mayW; rw [hT.2.2.1 h0, Bool.and_false]
          rw [hw] at hE
          have e1 : E = 2 := by rw [hE]; rfl
          have e2 : R = 0 := by rw [hRE, e1]; rfl
          subst e1 e2 h0
          clear hlt hall hT hE hRE ht0 ht1 HE H0 HT hw
          go_wp2_with fail
          go_ret2
          exact ⟨rfl, rfl⟩
        · have hw : mayW zs = true := by unfold mayW; rw [hT.2.1, hT.2.2.2 (by omega)]; rfl
          rw [hw] at hE
          have e1 : E = 0 := by rw [hE]; rfl
          have e2 : R = t := by rw [hRE, e1]; rfl
          subst e1 e2
          have h0' : (R == 0) = false := by rw [beq_eq_false_iff_ne]; exact h0
          clear hlt hall hT hE hRE ht0 ht1 HE H0 HT hw h0
          go_wp2_with fail
          go_ret2
          exact ⟨rfl, rfl⟩
end Go.Proofs.YtfonchobolhkoaaDoor
