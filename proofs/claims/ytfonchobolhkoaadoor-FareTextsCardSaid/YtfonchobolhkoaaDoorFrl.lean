/- couponref11: May, MayWeights, Together; couponlaw11.same. -/
import Derived.Test.YtfonchobolhkoaaDoorFre
namespace Go.Proofs.YtfonchobolhkoaaDoor
open Go.RowKit

def mayF (n : Int) : Bool := decide (-1000000000000 ≤ n ∧ n ≤ 1000000000000)
def okW (z : Int) : Bool := decide (0 ≤ z ∧ z ≤ 1000000000000)
def posW (z : Int) : Bool := decide (0 < z)
def mayW (zs : List Int) : Bool := zs.all okW && zs.any posW
def sumI (zs : List Int) : Int := zs.foldr (· + ·) 0
theorem sumI_snoc (l : List Int) (z : Int) : sumI (l ++ [z]) = sumI l + z := by
  induction l with
  | nil => simp [sumI]
  | cons a l ih => simp only [sumI, List.cons_append, List.foldr_cons] at ih ⊢; omega
theorem sumI_bd {l : List Int} (h : ∀ z ∈ l, 0 ≤ z ∧ z ≤ 1000000000000) : 0 ≤ sumI l ∧ sumI l ≤ l.length * 1000000000000 := by
  induction l with
  | nil => simp [sumI]
  | cons a l ih =>
    have h1 := ih (fun z hz => h z (List.mem_cons_of_mem _ hz))
    have h2 := h a (List.mem_cons_self ..)
    simp only [sumI, List.foldr_cons, List.length_cons] at h1 ⊢
    omega
theorem IntsAt.new {w w' : World} {v : Value} {zs : List Int} (h : IntsAt w v zs) {F : Nat → Prop} (f : Fr F w w') (hF : ∀ k, v.ownBlock = some k → ¬ F k) : IntsAt w' v zs := by
  obtain ⟨A, c, rfl, hc, hA⟩ := h
  refine ⟨A, c, rfl, hc, fun hp => ?_⟩
  obtain ⟨b, off, rfl, hcell⟩ := hA hp
  refine ⟨b, off, rfl, fun i z hi => ?_⟩
  have h1 := hcell i z hi
  exact (f.cell (World.block_lt_of_cell? w _ h1) (hF b rfl)).trans h1
theorem IntsAt.new0 {w w' : World} {v : Value} {zs : List Int} (h : IntsAt w v zs) (f : Fr (fun _ => False) w w') : IntsAt w' v zs := h.new f (fun _ _ q => q)
theorem rmayf_any (n : Int) (w : World) : Calls Tryd.prog 13 #[.int .i64 n] w fun e w' => e = .returned (.bool (mayF n)) ∧ w = w' := by
  obtain ⟨b, hb⟩ : ∃ b, b = mayF n := ⟨_, rfl⟩
  rw [← hb]
  by_cases h1 : -1000000000000 ≤ n
  · by_cases h2 : n ≤ 1000000000000
    · have e : b = true := by rw [hb]; unfold mayF; rw [decide_eq_true_eq]; omega
      subst e
      clear hb
      go_enter Tryd.func13, Tryd.ntmps13
      go_wp2_with fail
      go_ret
      exact ⟨rfl, rfl⟩
    · have e : b = false := by rw [hb]; unfold mayF; rw [decide_eq_false_iff_not]; omega
      subst e
      clear hb
      go_enter Tryd.func13, Tryd.ntmps13
      go_wp2_with fail
      go_ret
      exact ⟨rfl, rfl⟩
  · have e : b = false := by rw [hb]; unfold mayF; rw [decide_eq_false_iff_not]; omega
    subst e
    clear hb
    go_enter Tryd.func13, Tryd.ntmps13
    go_wp2_with fail
    go_ret
    exact ⟨rfl, rfl⟩
set_option maxRecDepth 100000 in
theorem rtog_any {w : World} {v : Value} {zs : List Int} (hv : IntsAt w v zs) (hl : zs.length ≤ 1000) (hz : ∀ z ∈ zs, 0 ≤ z ∧ z ≤ 1000000000000) : Calls Tryd.prog 16 #[v] w fun e w' => e = .returned (.int .i64 (sumI zs)) ∧ w = w' := by
  obtain ⟨A, c1, rfl, hc1, hA⟩ := hv
  obtain ⟨m, hm⟩ : ∃ m, m = zs.length := ⟨_, rfl⟩
  obtain ⟨s, hs⟩ : ∃ s, s = sumI zs := ⟨_, rfl⟩
  rw [← hm, ← hs]
  have H0 := Lib.hid (And.intro hA (And.intro hm (And.intro hs hz)))
  have hm9 : m ≤ 1000 := by omega
  clear hA hm hs hz hc1 hl
  go_enter Tryd.func16, Tryd.ntmps16
  go_wp2_with fail
  go_loop [3, 4] (fun y x => ∃ k : Nat, x = .int .i64 k ∧ k ≤ m ∧ ∃ t : Int, y = .int .i64 t ∧ Hid (t = sumI (zs.take k))) (fun _ x => m - (intOf x).toNat)
  case atStart => exact ⟨0, rfl, Nat.zero_le _, 0, rfl, Lib.hid rfl⟩
  case round =>
    obtain ⟨k, rfl, hk, t, rfl, HT⟩ := hrel
    by_cases hlt : k < m
    · obtain ⟨hA, hm, hs, hz⟩ := H0.out
      obtain ⟨z1, hz1⟩ : ∃ z1, zs[k]? = some z1 := ⟨_, List.getElem?_eq_getElem (by omega)⟩
      obtain ⟨b1, o1, rfl, hcA⟩ := hA (by omega)
      have hd1 := hcA k z1 hz1
      have htk : zs.take (k + 1) = zs.take k ++ [z1] := by rw [List.take_add_one, hz1]; rfl
      have hb := sumI_bd (l := zs.take k) (fun z q => hz z (List.mem_of_mem_take q))
      rw [← HT.out, List.length_take] at hb
      have hzb := hz z1 (List.mem_of_getElem? hz1)
      have HX : Hid (t + z1 = sumI (zs.take (k + 1))) := Lib.hid (by rw [htk, sumI_snoc, HT.out])
      have hk0 : (0 : Int) ≤ (k : Int) := by omega
      have hkm : (k : Int) < (m : Int) := by omega
      obtain ⟨ht0, ht1⟩ : 0 ≤ t ∧ t ≤ 1000000000000000 := by omega
      obtain ⟨hz0, hz9⟩ := hzb
      clear hA hm hs hz hz1 hcA htk hb hlt HT
      go_wp2_with fail
      exact ⟨⟨k + 1, by go_num, by omega, t + z1, rfl, HX⟩, by simp [intOf]; omega⟩
    · obtain rfl : k = m := by omega
      have e : t = s := by rw [HT.out, H0.out.2.2.1, List.take_of_length_le (by rw [← H0.out.2.1]; exact Nat.le_refl _)]
      subst e
      clear hlt
      go_wp2_with fail
      go_ret
      exact ⟨rfl, rfl⟩
set_option maxRecDepth 100000 in
theorem rmayw_any {w : World} {v : Value} {zs : List Int} (hv : IntsAt w v zs) (hl : zs.length ≤ 1000) : Calls Tryd.prog 12 #[v] w fun e w' => e = .returned (.bool (mayW zs)) ∧ w = w' := by
  obtain ⟨A, c1, rfl, hc1, hA⟩ := hv
  obtain ⟨m, hm⟩ : ∃ m, m = zs.length := ⟨_, rfl⟩
  obtain ⟨s, hs⟩ : ∃ s, s = mayW zs := ⟨_, rfl⟩
  rw [← hm, ← hs]
  have H0 := Lib.hid (And.intro hA (And.intro hm hs))
  have hm9 : m ≤ 1000 := by omega
  clear hA hm hs hc1 hl
  go_enter Tryd.func12, Tryd.ntmps12
  go_wp2_with fail
  go_loop [3, 4] (fun y x => ∃ k : Nat, x = .int .i64 k ∧ k ≤ m ∧ ∃ t : Bool, y = .bool t ∧ Hid ((zs.take k).all okW = true) ∧ Hid (t = (zs.take k).any posW)) (fun _ x => m - (intOf x).toNat)
  case atStart => exact ⟨0, rfl, Nat.zero_le _, false, rfl, Lib.hid rfl, Lib.hid rfl⟩
  case round =>
    obtain ⟨k, rfl, hk, t, rfl, HA, HT⟩ := hrel
    by_cases hlt : k < m
    · obtain ⟨hA, hm, hs⟩ := H0.out
      obtain ⟨z1, hz1⟩ : ∃ z1, zs[k]? = some z1 := ⟨_, List.getElem?_eq_getElem (by omega)⟩
      obtain ⟨b1, o1, rfl, hcA⟩ := hA (by omega)
      have hd1 := hcA k z1 hz1
      have htk : zs.take (k + 1) = zs.take k ++ [z1] := by rw [List.take_add_one, hz1]; rfl
      have hk0 : (0 : Int) ≤ (k : Int) := by omega
      have hkm : (k : Int) < (m : Int) := by omega
      have hbad : okW z1 = false → s = false := fun q => by
        rw [hs]
        unfold mayW
        rw [show zs.all okW = false from List.all_eq_false.2 ⟨z1, List.mem_of_getElem? hz1, by rw [q]; simp⟩]
        rfl
      by_cases h1 : z1 < 0
      · obtain rfl := hbad (by unfold okW; rw [decide_eq_false_iff_not]; omega)
        clear hA hm hs hz1 hcA htk hlt HA HT hbad
        go_wp2_with fail
        go_ret
        exact ⟨rfl, rfl⟩
      · by_cases h2 : 1000000000000 < z1
        · obtain rfl := hbad (by unfold okW; rw [decide_eq_false_iff_not]; omega)
          clear hA hm hs hz1 hcA htk hlt HA HT hbad
          go_wp2_with fail
          go_ret
          exact ⟨rfl, rfl⟩
        · have HX : Hid ((zs.take (k + 1)).all okW = true) := Lib.hid (by rw [htk, List.all_append, HA.out]; simp [okW]; omega)
          have HY : Hid ((zs.take (k + 1)).any posW = (t || posW z1)) := Lib.hid (by rw [htk, List.any_append, ← HT.out]; simp)
          cases t with
          | true =>
            clear hA hm hs hz1 hcA htk hlt HA HT hbad
            go_wp2_with fail
            exact ⟨⟨k + 1, by go_num, by omega, true, rfl, HX, Lib.hid (by rw [HY.out]; rfl)⟩, by simp [intOf]; omega⟩
          | false =>
            clear hA hm hs hz1 hcA htk hlt HA HT hbad
            by_cases h3 : 0 < z1
            · go_wp2_with fail
              exact ⟨⟨k + 1, by go_num, by omega, true, rfl, HX, Lib.hid (by rw [HY.out]; simp [posW, h3])⟩, by simp [intOf]; omega⟩
            · go_wp2_with fail
              exact ⟨⟨k + 1, by go_num, by omega, false, by first | rfl | simp [h3], HX, Lib.hid (by rw [HY.out]; simp [posW]; omega)⟩, by simp [intOf]; omega⟩
    · obtain rfl : k = m := by omega
      have hk2 : zs.take k = zs := List.take_of_length_le (by rw [← H0.out.2.1]; exact Nat.le_refl _)
      have e : t = s := by
        rw [HT.out, H0.out.2.2, hk2]
        have := HA.out
        rw [hk2] at this
        unfold mayW
        rw [this]
        rfl
      subst e
      clear hlt hk2
      go_wp2_with fail
      go_ret
      exact ⟨rfl, rfl⟩
end Go.Proofs.YtfonchobolhkoaaDoor
