/- The law StatusWalks, of what status' calls answer. -/
import Derived.Test.YthffnepfnadakaaSl1
namespace Go.Proofs.Ythffnepfnadakaa
open Go.RowKit

set_option maxRecDepth 100000 in
set_option maxHeartbeats 4000000 in
theorem swalks (P : StatusP) {w : World} {v : Value} {zs : List Int} (hv : IntsAt w v zs) : Calls Try.prog 4 #[v] w (Tru w) := by
  have HK := Lib.hid (fun W => sknown P W)
  have HV := Lib.hid hv
  obtain ⟨A, c1, rfl, hml, hA⟩ := hv
  obtain ⟨m, hm⟩ : ∃ m, m = zs.length := ⟨_, rfl⟩
  rw [← hm] at HV ⊢
  by_cases h1 : 60 < m
  · have h1i : (60 : Int) < (m : Int) := by omega
    clear hm hml hA h1
    go_enter Try.func4, Try.ntmps4
    go_wp2_with fail
    refine (HK.out _).mono ?_
    rintro e wk ⟨rfl, fk⟩
    have HFK := Lib.hid (fk)
    clear fk
    go_wp2_with fail
    go_ret
    exact ⟨rfl, HFK.out⟩
  · have h1i : ¬ (60 : Int) < (m : Int) := by omega
    have hm9 : m ≤ 60 := by omega
    obtain ⟨N, hN⟩ : ∃ N, N = walkN zs := ⟨_, rfl⟩
    obtain ⟨E, hE⟩ : ∃ E, E = walkE zs := ⟨_, rfl⟩
    have HPW := Lib.hid (P.walk w _ zs HV.out (by omega))
    rw [← hN, ← hE] at HPW
    have HRM := Lib.hid (fun z => rmays_any z)
    have HPL := Lib.hid (fun z => P.last z)
    have HPV := Lib.hid (fun z => P.live z)
    have HRW := Lib.hid (fun W (f : Fr (fun _ => False) w W) => rwalk_any (HV.out.new0 f) (by omega))
    have HH := Lib.hid (And.intro hm (And.intro hN (And.intro hE hA)))
    clear hm hml hA h1 hN hE
    go_enter Try.func4, Try.ntmps4
    go_wp2_with fail
    refine HPW.out.mono ?_
    rintro e w1 ⟨rfl, f1⟩
    have HF1 := Lib.hid f1
    clear f1 HPW
    go_wp2_with fail
    go_loopw [5] (fun x wq => wq = w1 ∧ ∃ i : Nat, x = .int .i64 i ∧ i ≤ m ∧ Hid (∀ (j : Nat) (z : Int), j < i → zs[j]? = some z → mayS z = true)) (fun x _ => m - (intOf x).toNat)
    case atStart => exact ⟨rfl, 0, rfl, Nat.zero_le _, Lib.hid (fun j z h => absurd h (by omega))⟩
    case round =>
      obtain ⟨hw, i, rfl, hi, HB⟩ := hrel
      subst hw
      by_cases hlt : i < m
      · obtain ⟨hm, hN, hE, hA⟩ := HH.out
        obtain ⟨z1, hz1⟩ : ∃ z, zs[i]? = some z := ⟨_, List.getElem?_eq_getElem (by omega)⟩
        obtain ⟨b1, o1, rfl, hcA⟩ := hA (by omega)
        have hd0 := hcA i z1 hz1
        have hd1 := (HF1.out.cell (p := ⟨b1, o1 + i, none⟩) (World.block_lt_of_cell? w _ hd0) (fun q => q)).trans hd0
        have HM1 := Lib.hid (HRM.out z1)
        have hii : (i : Int) < (m : Int) := by omega
        have hi0 : (0 : Int) ≤ (i : Int) := by omega
        have HLT := Lib.hid hlt
        cases hq : mayS z1 with
        | true =>
          rw [hq] at HM1
          have HB2 : Hid (∀ (j : Nat) (z : Int), j < i + 1 → zs[j]? = some z → mayS z = true) := Lib.hid (fun j z hj hz => by
            rcases Nat.lt_or_ge j i with h | h
            · exact HB.out j z h hz
            · obtain rfl : j = i := by omega
              rw [hz1] at hz
              injection hz with hz
              rw [← hz, hq])
          clear hm hN hE hA hz1 hcA hd0 hlt hq HB
          go_wp2_with fail
          refine (HM1.out _).mono ?_
          rintro e w' ⟨rfl, rfl⟩
          go_wp2_with fail
          refine ⟨⟨trivial, i + 1, by go_num, by have := HLT.out; omega, HB2⟩, ?_⟩
          simp [intOf]
          have := HLT.out
          omega
        | false =>
          rw [hq] at HM1
          have hall : zs.all mayS = false := by
            rw [List.all_eq_false]
            exact ⟨z1, List.mem_of_getElem? hz1, by rw [hq]; simp⟩
          obtain rfl : N = 0 := by rw [hN]; unfold walkN; rw [hall]; rfl
          obtain rfl : E = 2 := by rw [hE]; unfold walkE; rw [hall]; rfl
          clear hm hN hE hA hz1 hcA hd0 hlt hq HB hall HH
          go_wp2_with fail
          refine (HM1.out _).mono ?_
          rintro e w' ⟨rfl, rfl⟩
          go_wp2_with fail
          refine (HK.out _).mono ?_
          rintro e wk ⟨rfl, fk⟩
          have HFK := Lib.hid (HF1.out.trans fk (fun _ _ q => q))
          clear fk
          go_wp2_with fail
          go_ret
          exact ⟨rfl, HFK.out⟩
      · obtain rfl : i = m := by omega
        obtain ⟨hm, hN, hE, hA⟩ := HH.out
        have hall : zs.all mayS = true := by
          rw [List.all_eq_true]
          intro z hz
          obtain ⟨j, hj⟩ := List.mem_iff_getElem?.1 hz
          exact HB.out j z (by have := (List.getElem?_eq_some_iff.1 hj).1; omega) hj
        have hii : ¬ (i : Int) < (i : Int) := by omega
        obtain ⟨y, hy⟩ : ∃ y, y = walkAt zs := ⟨_, rfl⟩
        have HRW1 := Lib.hid (HRW.out _ HF1.out)
        rw [← hy] at HRW1
        have hNy : N = y := by rw [hN, hy]; unfold walkN; rw [hall]; rfl
        have hEy : E = if y = 0 then 0 else 9 := by rw [hE, hy]; unfold walkE; rw [hall]; rfl
        subst hNy
        by_cases hy0 : N = 0
        · subst hy0
          rw [if_pos rfl] at hEy
          subst hEy
          have HST : Hid (∀ j z, j + 1 < i → zs[j]? = some z → lastS z = false ∧ liveS z = true) := Lib.hid (fun j z hj hz => by
            have h2 := walk_steps hy.symm (j := j + 1) (by omega) (by omega)
            rw [Nat.add_sub_cancel, List.getD_eq_getElem?_getD, hz] at h2
            have h3 := leads_live h2
            exact ⟨h3.1, h3.2.1⟩)
          have HHA := Lib.hid (And.intro hm hA)
          clear hm hN hE hA hall hy hlt HB HH hi
          go_wp2_with fail
          refine HRW1.out.mono ?_
          rintro e w2 ⟨rfl, f2⟩
          have HF2 := Lib.hid (HF1.out.trans f2 (fun _ _ q => q))
          clear f2
          go_wp2_with fail
          go_loopw [7] (fun x wq => ∃ j : Nat, x = .int .i64 j ∧ j ≤ i + 1 ∧ Hid (Fr (fun _ => False) w wq)) (fun x _ => i + 1 - (intOf x).toNat)
          case atStart => exact ⟨0, rfl, Nat.zero_le _, HF2⟩
          case round =>
            clear HF2
            obtain ⟨j, rfl, hj, HF⟩ := hrel
            by_cases hlt : j + 1 < i
            · obtain ⟨hm, hA⟩ := HHA.out
              obtain ⟨z1, hz1⟩ : ∃ z, zs[j]? = some z := ⟨_, List.getElem?_eq_getElem (by omega)⟩
              obtain ⟨b1, o1, rfl, hcA⟩ := hA (by omega)
              have hd0 := hcA j z1 hz1
              have HD := Lib.hid (fun W (f : Fr (fun _ => False) w W) => (f.cell (p := ⟨b1, o1 + j, none⟩) (World.block_lt_of_cell? w _ hd0) (fun q => q)).trans hd0)
              have hd1 := HD.out _ HF.out
              obtain ⟨s1, s2⟩ := HST.out j z1 hlt hz1
              have HL1 := Lib.hid (HPL.out z1)
              have HV1 := Lib.hid (HPV.out z1)
              rw [s1] at HL1
              rw [s2] at HV1
              have hii : (j : Int) + 1 < (i : Int) := by omega
              have hi0 : (0 : Int) ≤ (j : Int) := by omega
              have hjm : (j : Int) < (i : Int) := by omega
              have HLT := Lib.hid hlt
              clear hm hA hz1 hcA hd0 s1 s2 hlt
              go_wp2_with fail
              refine (HL1.out _).mono ?_
              rintro e w3 ⟨rfl, f3⟩
              have HF3 := Lib.hid (HF.out.trans f3 (fun _ _ q => q))
              clear f3 hd1
              have hd1 := HD.out _ HF3.out
              go_wp2_with fail
              refine (HV1.out _).mono ?_
              rintro e w4 ⟨rfl, f4⟩
              have HF4 := Lib.hid (HF3.out.trans f4 (fun _ _ q => q))
              clear f4 hd1
              go_wp2_with fail
              refine ⟨⟨j + 1, by go_num, by have := HLT.out; omega, HF4⟩, ?_⟩
              simp [intOf]
              have := HLT.out
              omega
            · have hii : ¬ (j : Int) + 1 < (i : Int) := by omega
              clear hlt
              go_wp2_with fail
              refine (HK.out _).mono ?_
              rintro e wk ⟨rfl, fk⟩
              have HFK := Lib.hid (HF.out.trans fk (fun _ _ q => q))
              clear fk
              go_wp2_with fail
              go_ret
              exact ⟨rfl, HFK.out⟩
        · rw [if_neg hy0] at hEy
          subst hEy
          have hNp : (0 : Int) < (N : Int) := by omega
          have hNN : ((N : Int) == (N : Int)) = true := by simp
          have hNn : (N == N) = true := by simp
          clear hm hN hE hA hall hy hlt HB HH hi hy0
          go_wp2_with fail
          refine HRW1.out.mono ?_
          rintro e w2 ⟨rfl, f2⟩
          have HF2 := Lib.hid (HF1.out.trans f2 (fun _ _ q => q))
          clear f2
          go_wp2_with fail
          refine (HK.out _).mono ?_
          rintro e wk ⟨rfl, fk⟩
          have HFK := Lib.hid (HF2.out.trans fk (fun _ _ q => q))
          clear fk
          go_wp2_with fail
          go_ret
          exact ⟨rfl, HFK.out⟩
end Go.Proofs.Ythffnepfnadakaa
