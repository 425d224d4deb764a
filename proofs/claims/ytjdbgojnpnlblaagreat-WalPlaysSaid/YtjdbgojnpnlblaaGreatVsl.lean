/- couponref04.SameAll. -/
import Derived.Test.YtjdbgojnpnlblaaGreatVsa
namespace Go.Proofs.YtjdbgojnpnlblaaGreat
open Go.RowKit

/-- Records, in memory, to be read. -/
def RcsR (w : World) (v : Value) (rs : List (List Chg)) : Prop := ∃ A cap, v = .slice A rs.length cap ∧ rs.length ≤ 9223372036854775807 ∧ (0 < rs.length → ∃ b off, A = some ⟨b, off, none⟩ ∧ ∀ (i : Nat) (r : List Chg), rs[i]? = some r → ∃ u, w.cell? ⟨b, off + i, none⟩ = some u ∧ RcV w u r)
theorem RcsV.rd {w : World} {base : Nat} {v : Value} {rs : List (List Chg)} (h : RcsV w base v rs) : RcsR w v rs := by
  obtain ⟨vs, h1, h2, h3⟩ := h
  obtain ⟨A, cap, rfl, h4, h5⟩ := own_slice h1
  refine ⟨A, cap, by rw [h2], by simp only [maxLen] at h5; omega, fun hn => ?_⟩
  rcases h1.2 with ⟨_, h0⟩ | ⟨b, c, cur, hv, _⟩
  · omega
  · have hA : A = some ⟨b, 0, none⟩ := by injection hv
    subst hA
    refine ⟨b, 0, rfl, fun i r hr => ?_⟩
    have hi := (List.getElem?_eq_some_iff.1 hr).1
    obtain ⟨u, hu⟩ : ∃ u, vs[i]? = some u := ⟨_, List.getElem?_eq_getElem (by omega)⟩
    have hc := h1.cells (g := b) rfl i u hu
    rw [Addr.add_mid] at hc
    exact ⟨u, hc, (h3 i u r hu hr).1⟩
theorem RcsR.new {w w' : World} {v : Value} {rs : List (List Chg)} (h : RcsR w v rs) (f : Fr (fun _ => False) w w') : RcsR w' v rs := by
  obtain ⟨A, cap, e, h1, h2⟩ := h
  refine ⟨A, cap, e, h1, fun hn => ?_⟩
  obtain ⟨b, off, e2, h3⟩ := h2 hn
  refine ⟨b, off, e2, fun i r hr => ?_⟩
  obtain ⟨u, hu, hrv⟩ := h3 i r hr
  exact ⟨u, (f.cell (World.block_lt_of_cell? w _ hu) (fun q => q)).trans hu, hrv.new f⟩
set_option maxRecDepth 100000 in
set_option maxHeartbeats 2000000 in
theorem rall_any {w : World} {u v : Value} {rs ts : List (List Chg)} (hr : RcsR w u rs) (ht : RcsR w v ts) : Calls Tryz.prog 16 #[u, v] w fun e w' => e = .returned (.bool (decide (rs = ts))) ∧ Fr (fun _ => False) w w' := by
  have H1 := Lib.hid hr
  have H2 := Lib.hid ht
  obtain ⟨A1, c1, rfl, hm1, a3⟩ := hr
  obtain ⟨A2, c2, rfl, hm2, b3⟩ := ht
  obtain ⟨z, hz⟩ : ∃ z, z = decide (rs = ts) := ⟨_, rfl⟩
  rw [← hz]
  by_cases hl : rs.length = ts.length
  · obtain ⟨n, hn⟩ : ∃ n, n = rs.length := ⟨_, rfl⟩
    have hn2 : n = ts.length := by omega
    rw [← hn, ← hn2]
    rw [← hn] at a3 hm1
    rw [← hn2] at b3
    have HH := Lib.hid (And.intro hn (And.intro hn2 (And.intro a3 (And.intro b3 hz))))
    clear hn hn2 a3 b3 hl hm2 hz H1 H2
    go_enter Tryz.func16, Tryz.ntmps16
    go_wp2_with fail
    go_loopw [5] (fun i wr => ∃ k : Nat, i = .int .i64 k ∧ k ≤ n ∧ Hid (∀ j, j < k → rs[j]? = ts[j]?) ∧ Hid (Fr (fun _ => False) w wr)) (fun i _ => n - (intOf i).toNat)
    case atStart => exact ⟨0, rfl, Nat.zero_le _, Lib.hid (fun j hj => absurd hj (by omega)), Lib.hid (Fr.refl _ _)⟩
    case round =>
      obtain ⟨k, rfl, hk, HE, HF⟩ := hrel
      by_cases hlt : k < n
      · obtain ⟨p1, o1, rfl, q1⟩ := HH.out.2.2.1 (by omega)
        obtain ⟨p2, o2, rfl, q2⟩ := HH.out.2.2.2.1 (by omega)
        obtain ⟨rx, hx⟩ : ∃ x, rs[k]? = some x := ⟨_, List.getElem?_eq_getElem (by have := HH.out.1; omega)⟩
        obtain ⟨ry, hy⟩ : ∃ y, ts[k]? = some y := ⟨_, List.getElem?_eq_getElem (by have := HH.out.2.1; omega)⟩
        obtain ⟨x, x1, x2⟩ := q1 k rx hx
        obtain ⟨y, y1, y2⟩ := q2 k ry hy
        obtain ⟨bb, hbb⟩ : ∃ bb, bb = decide (rx = ry) := ⟨_, rfl⟩
        have HC : Hid (∀ w', Fr (fun _ => False) wr w' → w'.cell? ⟨p1, o1 + k, none⟩ = some x ∧ w'.cell? ⟨p2, o2 + k, none⟩ = some y ∧ Fr (fun _ => False) w w') := Lib.hid fun w' f => by
          have g := HF.out.trans f (fun _ _ q => q)
          exact ⟨(g.cell (World.block_lt_of_cell? w _ x1) (fun q => q)).trans x1, (g.cell (World.block_lt_of_cell? w _ y1) (fun q => q)).trans y1, g⟩
        have HS : Hid (∀ w', Fr (fun _ => False) wr w' → Calls Tryz.prog 53 #[x, y] w' fun e w'' => e = .returned (.bool bb) ∧ Fr (fun _ => False) w' w'') := Lib.hid fun w' f => by
          have g := HF.out.trans f (fun _ _ q => q)
          rw [hbb]
          exact rsame_any (x2.new g) (y2.new g)
        have HX := Lib.hid (And.intro hx (And.intro hy hbb))
        have hi0 : (0 : Int) ≤ (k : Int) := by omega
        have hi1 : (k : Int) < (n : Int) := by omega
        clear q1 q2 hx hy x1 x2 y1 y2 hbb
        go_wp2_with fail
        refine wp_region_held_drew (S := fun w' => Fr (fun _ => False) wr w') (by kernel_rfl) ((Fr.refl _ _).drew) (fun hS0 => ?_)
        refine anyH_take 0 17 (.slice (some ⟨p1, o1, none⟩) n c1) rfl rfl (by kernel_rfl) (by kernel_rfl) (by kernel_rfl) (fun _ _ _ h => h) (.inl ⟨by rfl, fun w'' hS => by go_simp⟩) hS0 ?_
        (simp only [List.setIfInBounds_toArray, List.set_cons_zero, List.set_cons_succ])
        refine anyH_take 1 18 (.int .i64 (k : Nat)) rfl rfl (by kernel_rfl) (by kernel_rfl) (by kernel_rfl) (fun _ _ _ h => h) (.inl ⟨by rfl, fun w'' hS => by go_simp⟩) hS0 ?_
        (simp only [List.setIfInBounds_toArray, List.set_cons_zero, List.set_cons_succ])
        refine anyH_take 2 19 (.pointer (some ⟨p1, o1 + k, none⟩)) rfl rfl (by kernel_rfl) (by kernel_rfl) (by kernel_rfl) (fun _ _ _ h => h) (.inl ⟨by rfl, fun w'' hS => by go_simp⟩) hS0 ?_
        (simp only [List.setIfInBounds_toArray, List.set_cons_zero, List.set_cons_succ])
        refine anyH_take 3 20 x rfl rfl (by kernel_rfl) (by kernel_rfl) (by kernel_rfl) (fun _ _ _ h => h) (.inl ⟨by rfl, fun w'' hS => by have q := (HC.out w'' hS).1; go_simp⟩) hS0 ?_
        (simp only [List.setIfInBounds_toArray, List.set_cons_zero, List.set_cons_succ])
        refine anyH_take 4 21 (.slice (some ⟨p2, o2, none⟩) n c2) rfl rfl (by kernel_rfl) (by kernel_rfl) (by kernel_rfl) (fun _ _ _ h => h) (.inl ⟨by rfl, fun w'' hS => by go_simp⟩) hS0 ?_
        (simp only [List.setIfInBounds_toArray, List.set_cons_zero, List.set_cons_succ])
        refine anyH_take 5 22 (.int .i64 (k : Nat)) rfl rfl (by kernel_rfl) (by kernel_rfl) (by kernel_rfl) (fun _ _ _ h => h) (.inl ⟨by rfl, fun w'' hS => by go_simp⟩) hS0 ?_
        (simp only [List.setIfInBounds_toArray, List.set_cons_zero, List.set_cons_succ])
        refine anyH_take 6 23 (.pointer (some ⟨p2, o2 + k, none⟩)) rfl rfl (by kernel_rfl) (by kernel_rfl) (by kernel_rfl) (fun _ _ _ h => h) (.inl ⟨by rfl, fun w'' hS => by go_simp⟩) hS0 ?_
        (simp only [List.setIfInBounds_toArray, List.set_cons_zero, List.set_cons_succ])
        refine anyH_take 7 24 y rfl rfl (by kernel_rfl) (by kernel_rfl) (by kernel_rfl) (fun _ _ _ h => h) (.inl ⟨by rfl, fun w'' hS => by have q := (HC.out w'' hS).2.1; go_simp⟩) hS0 ?_
        (simp only [List.setIfInBounds_toArray, List.set_cons_zero, List.set_cons_succ])
        refine anyH_one 8 25 (.bool bb) (by kernel_rfl) (tame_call 25 rfl rfl (by rfl) (fun w'' hS => by go_simp) (fun w'' hS => ((HS.out w'' hS).mono fun e w3 he => ⟨he.1, hS.trans he.2 (fun _ _ q => q)⟩))) hS0 (fun w8 hS0 => ?_)
        (simp only [List.setIfInBounds_toArray, List.set_cons_zero, List.set_cons_succ])
        refine anyH_take 9 26 (.bool (!bb)) rfl rfl (by kernel_rfl) (by kernel_rfl) (by kernel_rfl) (fun _ _ _ h => h) (.inl ⟨by rfl, fun w'' hS => by go_simp⟩) hS0 ?_
        (simp only [List.setIfInBounds_toArray, List.set_cons_zero, List.set_cons_succ])
        refine wpAnyH_done (by kernel_rfl) ?_ _
        cases bb with
        | true =>
          have hxy : rx = ry := of_decide_eq_true HX.out.2.2.symm
          have HXY := Lib.hid hxy
          clear hxy
          go_wp2_with fail
          refine ⟨⟨k + 1, by go_num, hlt, Lib.hid (fun j hj => ?_), Lib.hid (HF.out.trans hS0 (fun _ _ q => q))⟩, by simp [intOf]; omega⟩
          by_cases e : j = k
          · subst e
            rw [HX.out.1, HX.out.2.1, HXY.out]
          · exact HE.out j (by omega)
        | false =>
          have hzf : z = false := by
            rw [HH.out.2.2.2.2, decide_eq_false_iff_not]
            intro e
            have := HX.out.1
            rw [e, HX.out.2.1] at this
            injection this with this
            have h9 := HX.out.2.2
            rw [this] at h9
            simp at h9
          go_wp2_with fail
          go_ret
          exact ⟨by rw [hzf]; rfl, HF.out.trans hS0 (fun _ _ q => q)⟩
      · obtain rfl : k = n := by omega
        have hzt : z = true := by
          rw [HH.out.2.2.2.2, decide_eq_true_eq]
          apply List.ext_getElem?
          intro i
          by_cases hi : i < k
          · exact HE.out i hi
          · rw [List.getElem?_eq_none (by have := HH.out.1; omega), List.getElem?_eq_none (by have := HH.out.2.1; omega)]
        clear hlt hk
        go_wp2_with fail
        go_ret
        exact ⟨by rw [hzt]; rfl, HF.out⟩
  · have hzf : z = false := by
      rw [hz, decide_eq_false_iff_not]
      intro e
      exact hl (by rw [e])
    have hne : ¬ ((rs.length : Int) = (ts.length : Int)) := by omega
    clear H1 H2
    generalize rs.length = n1 at *
    generalize ts.length = n2 at *
    clear a3 b3 hz
    go_enter Tryz.func16, Tryz.ntmps16
    go_wp2_with fail
    go_ret
    exact ⟨by rw [hzf]; rfl, Fr.refl _ _⟩
end Go.Proofs.YtjdbgojnpnlblaaGreat
