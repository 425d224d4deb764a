/- couponlaw12.same. -/
import Derived.Test.YthffnepfnadakaaSin
namespace Go.Proofs.Ythffnepfnadakaa
open Go.RowKit

set_option maxRecDepth 100000 in
set_option maxHeartbeats 4000000 in
theorem lsame_any {w : World} {v u : Value} {zs ys : List Int} (hv : IntsAt w v zs) (hu : IntsAt w u ys) (hzl : zs.length ≤ 100000) (hyl : ys.length ≤ 100000) : Calls Try.prog 15 #[v, u] w fun e w' => e = .returned (.bool (decide (zs = ys))) ∧ Fr (fun _ => False) w w' := by
  obtain ⟨A, c1, rfl, hc1, hA⟩ := hv
  obtain ⟨B, c2, rfl, hc2, hB⟩ := hu
  obtain ⟨m, hm⟩ : ∃ m, m = zs.length := ⟨_, rfl⟩
  obtain ⟨n, hn⟩ : ∃ n, n = ys.length := ⟨_, rfl⟩
  obtain ⟨t, ht⟩ : ∃ t, t = decide (zs = ys) := ⟨_, rfl⟩
  rw [← ht]
  have H0 := Lib.hid (And.intro hA (And.intro hB (And.intro hm (And.intro hn ht))))
  rw [← hm, ← hn]
  have hm9 : m ≤ 100000 := by omega
  have hn9 : n ≤ 100000 := by omega
  clear hA hB hm hn ht hc1 hc2 hzl hyl
  by_cases hmn : m = n
  · subst hmn
    have hb0 : ((m : Int) != (m : Int)) = false := by simp
    go_enter Try.func15, Try.ntmps15
    go_wp2_with fail
    go_loopw [5] (fun x wr => ∃ k : Nat, x = .int .i64 k ∧ k ≤ m ∧ Hid (∀ i, i < k → zs[i]? = ys[i]?) ∧ Hid (Fr (fun _ => False) w wr)) (fun x _ => m - (intOf x).toNat)
    case atStart => exact ⟨0, rfl, Nat.zero_le _, Lib.hid (fun i hi => absurd hi (by omega)), Lib.hid (Fr.refl _ _)⟩
    case round =>
      obtain ⟨k, rfl, hk, HP, HF⟩ := hrel
      by_cases hlt : k < m
      · obtain ⟨hA, hB, hm, hn, ht⟩ := H0.out
        obtain ⟨z1, hz1⟩ : ∃ z1, zs[k]? = some z1 := ⟨_, List.getElem?_eq_getElem (by omega)⟩
        obtain ⟨z2, hz2⟩ : ∃ z2, ys[k]? = some z2 := ⟨_, List.getElem?_eq_getElem (by omega)⟩
        obtain ⟨b1, o1, rfl, hcA⟩ := hA (by omega)
        obtain ⟨b2, o2, rfl, hcB⟩ := hB (by omega)
        have hcc1 := hcA k z1 hz1
        have hcc2 := hcB k z2 hz2
        have hd1 : wr.cell? ⟨b1, o1 + k, none⟩ = some (.int .i64 z1) := (HF.out.cell (World.block_lt_of_cell? w _ hcc1) (fun q => q)).trans hcc1
        have hd2 : wr.cell? ⟨b2, o2 + k, none⟩ = some (.int .i64 z2) := (HF.out.cell (World.block_lt_of_cell? w _ hcc2) (fun q => q)).trans hcc2
        have hk0 : (0 : Int) ≤ (k : Int) := by omega
        have hkm : (k : Int) < (m : Int) := by omega
        have HX := Lib.hid (And.intro hz1 (And.intro hz2 ht))
        clear hA hB hm hn ht hz1 hz2 hcA hcB hcc1 hcc2 hlt
        by_cases he : z1 = z2
        · have hb1 : (z1 != z2) = false := by simp [he]
          have HE := Lib.hid he
          clear he
          go_wp2_with fail
          go_region
          go_wp2_with fail
          refine ⟨⟨k + 1, by norm_cast, by omega, Lib.hid (fun i hi => ?_), Lib.hid HF.out.drew⟩, ?_⟩
          · by_cases hik : i < k
            · exact HP.out i hik
            · have : i = k := by omega
              rw [this, HX.out.1, HX.out.2.1, HE.out]
          · simp only [intOf]
            omega
        · have hb1 : (z1 != z2) = true := by simp [he]
          have ht : t = false := by
            rw [HX.out.2.2, decide_eq_false_iff_not]
            intro q
            have h1 := HX.out.1
            rw [q, HX.out.2.1] at h1
            injection h1 with h1
            exact he h1.symm
          have HE := Lib.hid ht
          clear he ht
          go_wp2_with fail
          go_region
          go_wp2_with fail
          go_ret
          exact ⟨by rw [HE.out]; rfl, HF.out.drew⟩
      · obtain rfl : k = m := by omega
        have ht : t = true := by
          rw [H0.out.2.2.2.2, decide_eq_true_eq]
          apply List.ext_getElem?
          intro i
          by_cases hi : i < k
          · exact HP.out i hi
          · have h1 := H0.out.2.2.1
            have h2 := H0.out.2.2.2.1
            rw [List.getElem?_eq_none (by omega), List.getElem?_eq_none (by omega)]
        have HE := Lib.hid ht
        clear ht hlt
        go_wp2_with fail
        go_ret
        exact ⟨by rw [HE.out]; rfl, HF.out⟩
  · have hb0 : ((m : Int) != (n : Int)) = true := by simp; omega
    have ht : t = false := by
      rw [H0.out.2.2.2.2, decide_eq_false_iff_not]
      intro q
      exact hmn (by rw [H0.out.2.2.1, H0.out.2.2.2.1, q])
    have HE := Lib.hid ht
    clear ht hmn
    go_enter Try.func15, Try.ntmps15
    go_wp2_with fail
    go_ret
    exact ⟨by rw [HE.out]; rfl, Fr.refl _ _⟩
end Go.Proofs.Ythffnepfnadakaa
