/- couponref13: Same. -/
import Derived.Test.YtmopkfjnjbimnaaKcp
namespace Go.Proofs.Ytmopkfjnjbimnaa
open Go.RowKit

theorem info_size {T : TypeId} {z : Value} {n b : Nat} (h : (Try.prog.info? T).map (fun i => (i.zero, i.size, i.bytes)) = some (some z, n, b)) : (Try.prog.info? T).map (·.size) = some n := by
  obtain ⟨i, hi, _, hs, _⟩ := info_parts h
  rw [hi, Option.map_some, hs]
theorem cp_ne {x y : CpD} (h : x ≠ y) : x.fl = y.fl → x.dy = y.dy → x.va = y.va → x.st = y.st → x.ho = y.ho → ¬ (x.nx : Int) = (y.nx : Int) := fun e1 e2 e3 e4 e5 e6 => h (by
  cases x
  cases y
  simp only at e1 e2 e3 e4 e5 e6
  simp only [CpD.mk.injEq]
  exact ⟨e1, e2, e3, e4, e5, by omega⟩)
theorem tx_ne {x y : TxD} (h : x ≠ y) : x.co = y.co → ¬ x.am = y.am := fun e1 e2 => h (by
  cases x
  cases y
  simp only at e1 e2
  simp only [TxD.mk.injEq]
  exact ⟨e1, e2⟩)
theorem ev_ne {x y : EvT} (h : x ≠ y) : x.dy = y.dy → x.cp = y.cp → x.fr = y.fr → ¬ x.tw = y.tw := fun e1 e2 e3 e4 => h (by
  cases x
  cases y
  simp only at e1 e2 e3 e4
  simp only [EvT.mk.injEq]
  exact ⟨e1, e2, e3, e4⟩)
theorem list_same {α : Type} {xs ys : List α} {n : Nat} (h1 : n = xs.length) (h2 : n = ys.length) (h : ∀ i, i < n → xs[i]? = ys[i]?) : xs = ys := by
  apply List.ext_getElem?
  intro i
  rcases Nat.lt_or_ge i n with hi | hi
  · exact h i hi
  · rw [List.getElem?_eq_none (by omega), List.getElem?_eq_none (by omega)]
/-- Two boxed tickets. -/
theorem two_box {w : World} (a b : TkD) (sa sxa sea sb sxb seb : Value) :
    Fr (fun _ => False) w ((w.alloc (.cells (tkA a sa sxa sea) 27)).alloc (.cells (tkA b sb sxb seb) 27)) ∧
    Blk ((w.alloc (.cells (tkA a sa sxa sea) 27)).alloc (.cells (tkA b sb sxb seb) 27)) w.heap.size 27 (tkA a sa sxa sea) ∧
    Blk ((w.alloc (.cells (tkA a sa sxa sea) 27)).alloc (.cells (tkA b sb sxb seb) 27)) (w.heap.size + 1) 27 (tkA b sb sxb seb) := by
  refine ⟨((Fr.refl _ w).alloc _).alloc _, (Blk.new w _ _).keep ((Fr.refl (fun _ => False) _).alloc _) (fun q => q), ?_⟩
  have := Blk.new (w.alloc (.cells (tkA a sa sxa sea) 27)) 27 (tkA b sb sxb seb)
  rwa [show (w.alloc (.cells (tkA a sa sxa sea) 27)).heap.size = w.heap.size + 1 from Array.size_push _] at this
set_option maxRecDepth 100000 in
set_option maxHeartbeats 8000000 in
theorem rsame_any {w : World} {v u : Value} {a b : TkD} (hv : TkV w v a) (hu : TkV w u b) : Calls Try.prog 14 #[v, u] w fun e w' => e = .returned (.bool (decide (a = b))) ∧ Fr (fun _ => False) w w' := by
  obtain ⟨sa, sxa, sea, rfl, a1, a2, a3⟩ := hv
  obtain ⟨sb, sxb, seb, rfl, b1, b2, b3⟩ := hu
  have HB := Lib.hid (two_box (w := w) a b sa sxa sea sb sxb seb)
  obtain ⟨r, hr⟩ : ∃ r, r = decide (a = b) := ⟨_, rfl⟩
  rw [← hr]
  have HR := Lib.hid hr
  have HA := Lib.hid (And.intro a1 (And.intro a2 a3))
  have HBB := Lib.hid (And.intro b1 (And.intro b2 b3))
  obtain ⟨Aa0, na0, ca0, ea0, la0⟩ : ∃ A n c, sa = .slice A n c ∧ n = a.cps.length := by obtain ⟨A, c, e, _⟩ := a1.slice; exact ⟨A, _, c, e, rfl⟩
  obtain ⟨Aa1, na1, ca1, ea1, la1⟩ : ∃ A n c, sxa = .slice A n c ∧ n = a.txs.length := by obtain ⟨A, c, e, _⟩ := a2.slice; exact ⟨A, _, c, e, rfl⟩
  obtain ⟨Aa2, na2, ca2, ea2, la2⟩ : ∃ A n c, sea = .slice A n c ∧ n = a.his.length := by obtain ⟨A, c, e, _⟩ := a3.slice; exact ⟨A, _, c, e, rfl⟩
  obtain ⟨Ab0, nb0, cb0, eb0, lb0⟩ : ∃ A n c, sb = .slice A n c ∧ n = b.cps.length := by obtain ⟨A, c, e, _⟩ := b1.slice; exact ⟨A, _, c, e, rfl⟩
  obtain ⟨Ab1, nb1, cb1, eb1, lb1⟩ : ∃ A n c, sxb = .slice A n c ∧ n = b.txs.length := by obtain ⟨A, c, e, _⟩ := b2.slice; exact ⟨A, _, c, e, rfl⟩
  obtain ⟨Ab2, nb2, cb2, eb2, lb2⟩ : ∃ A n c, seb = .slice A n c ∧ n = b.his.length := by obtain ⟨A, c, e, _⟩ := b3.slice; exact ⟨A, _, c, e, rfl⟩
  have z0 : na0 ≤ 9223372036854775807 := by obtain ⟨_, _, _, h1, h2⟩ := a1.slice; rw [la0]; simp only [maxLen] at h2; omega
  have z1 : na1 ≤ 9223372036854775807 := by obtain ⟨_, _, _, h1, h2⟩ := a2.slice; rw [la1]; simp only [maxLen] at h2; omega
  have z2 : na2 ≤ 9223372036854775807 := by obtain ⟨_, _, _, h1, h2⟩ := a3.slice; rw [la2]; simp only [maxLen] at h2; omega
  subst ea0 ea1 ea2 eb0 eb1 eb2
  have HL := Lib.hid (And.intro la0 (And.intro la1 (And.intro la2 (And.intro lb0 (And.intro lb1 lb2)))))
  clear hr a1 a2 a3 b1 b2 b3
  by_cases g0 : a.num = b.num
  · have k0 : ((a.num : Int) != (b.num : Int)) = false := by rw [g0]; simp
    by_cases g1 : a.loc = b.loc
    · have k1 : (a.loc.toList != b.loc.toList) = false := by rw [g1]; simp
      by_cases g2 : a.iss = b.iss
      · have k2 : (a.iss != b.iss) = false := by rw [g2]; simp
        by_cases g3 : a.prv = b.prv
        · have k3 : ((a.prv : Int) != (b.prv : Int)) = false := by rw [g3]; simp
          by_cases g4 : a.org = b.org
          · have k4 : ((a.org : Int) != (b.org : Int)) = false := by rw [g4]; simp
            by_cases g5 : a.fst = b.fst
            · have k5 : ((a.fst : Int) != (b.fst : Int)) = false := by rw [g5]; simp
              by_cases g6 : a.vou = b.vou
              · have k6 : (a.vou != b.vou) = false := by rw [g6]; simp
                by_cases g7 : a.pos = b.pos
                · have k7 : (a.pos != b.pos) = false := by rw [g7]; simp
                  by_cases m0 : na0 = nb0
                  · have j0 : ((na0 : Int) != (nb0 : Int)) = false := by rw [m0]; simp
                    by_cases m1 : na1 = nb1
                    · have j1 : ((na1 : Int) != (nb1 : Int)) = false := by rw [m1]; simp
                      by_cases m2 : na2 = nb2
                      · have j2 : ((na2 : Int) != (nb2 : Int)) = false := by rw [m2]; simp
                        have HG := Lib.hid (And.intro g0 (And.intro g1 (And.intro g2 (And.intro g3 (And.intro g4 (And.intro g5 (And.intro g6 g7)))))))
                        obtain ⟨W0, hW0⟩ : ∃ W0, W0 = (w.alloc (.cells (tkA a (.slice Aa0 na0 ca0) (.slice Aa1 na1 ca1) (.slice Aa2 na2 ca2)) 27)).alloc (.cells (tkA b (.slice Ab0 nb0 cb0) (.slice Ab1 nb1 cb1) (.slice Ab2 nb2 cb2)) 27) := ⟨_, rfl⟩
                        rw [← hW0] at HB
                        have HQ := Lib.hid hW0
                        clear la0 la1 la2 lb0 lb1 lb2 hW0
                        subst m0 m1 m2
                        go_enter Try.func14, Try.ntmps14
                        go_wp2_with fail
                        rw [← HQ.out]
                        clear HQ g0 g1 g2 g3 g4 g5 g6 g7 k0 k1 k2 k3 k4 k5 k6 k7
                        clear j0 j1 j2
                        have H0 : Hid (Fr (fun _ => False) W0 W0) := Lib.hid (Fr.refl _ _)
                        go_loopw [5] (fun x wr => ∃ k : Nat, x = .int .i64 k ∧ k ≤ na0 ∧ Hid (∀ i, i < k → a.cps[i]? = b.cps[i]?) ∧ Hid (Fr (fun _ => False) W0 wr)) (fun x _ => na0 - (intOf x).toNat)
                        case atStart => exact ⟨0, rfl, Nat.zero_le _, Lib.hid (fun i hi => absurd hi (by omega)), H0⟩
                        case round =>
                          clear H0
                          obtain ⟨k, rfl, hk, HP, HF⟩ := hrel
                          have hx1 := cp_cell (HB.out.2.1.keep HF.out (fun q => q)) 3 rfl
                          by_cases hlt : k < na0
                          · obtain ⟨x1, hx⟩ : ∃ x, a.cps[k]? = some x := ⟨_, List.getElem?_eq_getElem (by rw [← HL.out.1]; exact hlt)⟩
                            obtain ⟨y1, hy⟩ : ∃ y, b.cps[k]? = some y := ⟨_, List.getElem?_eq_getElem (by rw [← HL.out.2.2.2.1]; exact hlt)⟩
                            obtain ⟨b1, o1, cc1, e1, hc1⟩ := HA.out.1.cell hx
                            obtain ⟨b2, o2, cc2, e2, hc2⟩ := HBB.out.1.cell hy
                            injection e1 with e1 e1n e1c
                            injection e2 with e2 e2n e2c
                            subst e1 e2
                            clear hx1
                            have hx1 := cp_cell (HB.out.2.1.keep HF.out (fun q => q)) 3 rfl
                            have HX1 : Hid (∀ W, Fr (fun _ => False) W0 W → W.cell? ⟨w.heap.size, 3, none⟩ = some (.slice (some ⟨b1, o1, none⟩) na0 ca0)) := Lib.hid (fun W f => cp_cell (HB.out.2.1.keep f (fun q => q)) 3 rfl)
                            have HX2 : Hid (∀ W, Fr (fun _ => False) W0 W → W.cell? ⟨w.heap.size + 1, 3, none⟩ = some (.slice (some ⟨b2, o2, none⟩) na0 cb0)) := Lib.hid (fun W f => cp_cell (HB.out.2.2.keep f (fun q => q)) 3 rfl)
                            have HY1 : Hid (∀ W, Fr (fun _ => False) W0 W → W.rangeAt b1 (o1 + k * 6) (cpC x1)) := Lib.hid (fun W f j u hu => by have h5 := hc1 j u hu; exact (f.cell (Nat.lt_of_lt_of_le (World.block_lt_of_cell? w _ h5) HB.out.1.size) (fun q => q)).trans ((HB.out.1.cell (World.block_lt_of_cell? w _ h5) (fun q => q)).trans h5))
                            have HY2 : Hid (∀ W, Fr (fun _ => False) W0 W → W.rangeAt b2 (o2 + k * 6) (cpC y1)) := Lib.hid (fun W f j u hu => by have h5 := hc2 j u hu; exact (f.cell (Nat.lt_of_lt_of_le (World.block_lt_of_cell? w _ h5) HB.out.1.size) (fun q => q)).trans ((HB.out.1.cell (World.block_lt_of_cell? w _ h5) (fun q => q)).trans h5))
                            have hk0 : (0 : Int) ≤ (k : Int) := by omega
                            have hkm : (k : Int) < (na0 : Int) := by omega
                            have HK := Lib.hid (And.intro hk0 hkm)
                            have HXY := Lib.hid (And.intro hx (And.intro hy hlt))
                            clear hx hy hc1 hc2 e1n e1c e2n e2c hlt
                            by_cases he : x1 = y1
                            · subst he
                              go_wp2_with fail
                              refine wp_region_held_drew (S := fun w' => Fr (fun _ => False) W0 w') (by kernel_rfl) (HF.out.drew) (fun hS0 => ?_)
                              refine anyH_take 0 94 (.pointer (some ⟨w.heap.size, 3, none⟩)) rfl rfl (by kernel_rfl) (by kernel_rfl) (by kernel_rfl) (fun _ _ _ h => h) (.inl ⟨by rfl, fun w'' hS => by go_simp⟩) hS0 ?_
                              (simp only [List.setIfInBounds_toArray, List.set_cons_zero, List.set_cons_succ])
                              refine anyH_take 1 95 (.slice (some ⟨b1, o1, none⟩) na0 ca0) rfl rfl (by kernel_rfl) (by kernel_rfl) (by kernel_rfl) (fun _ _ _ h => h) (.inl ⟨by rfl, fun w'' hS => by have q0 := HX1.out _ hS; go_simp⟩) hS0 ?_
                              (simp only [List.setIfInBounds_toArray, List.set_cons_zero, List.set_cons_succ])
                              refine anyH_take 2 96 (.int .i64 (k : Nat)) rfl rfl (by kernel_rfl) (by kernel_rfl) (by kernel_rfl) (fun _ _ _ h => h) (.inl ⟨by rfl, fun w'' hS => by go_simp⟩) hS0 ?_
                              (simp only [List.setIfInBounds_toArray, List.set_cons_zero, List.set_cons_succ])
                              refine anyH_take 3 97 (.pointer (some ⟨b1, o1 + k * 6, none⟩)) rfl rfl (by kernel_rfl) (by kernel_rfl) (by kernel_rfl) (fun _ _ _ h => h) (.inl ⟨by rfl, fun w'' hS => by have q0 := HK.out.1; have q1 := HK.out.2; go_simp⟩) hS0 ?_
                              (simp only [List.setIfInBounds_toArray, List.set_cons_zero, List.set_cons_succ])
                              refine anyH_take 4 98 (.agg (cpC x1).toArray) rfl rfl (by kernel_rfl) (by kernel_rfl) (by kernel_rfl) (fun _ _ _ h => h) (yieldsIf_load_mid rfl 49 (.tmp 97) rfl b1 (o1 + k * 6) rfl (cpC x1) _ (fun w'' hS => HY1.out w'' hS) Try.underlying49 rfl (info_size infoCp)) hS0 ?_
                              (simp only [List.setIfInBounds_toArray, List.set_cons_zero, List.set_cons_succ])
                              refine anyH_take 5 99 (.pointer (some ⟨w.heap.size + 1, 3, none⟩)) rfl rfl (by kernel_rfl) (by kernel_rfl) (by kernel_rfl) (fun _ _ _ h => h) (.inl ⟨by rfl, fun w'' hS => by go_simp⟩) hS0 ?_
                              (simp only [List.setIfInBounds_toArray, List.set_cons_zero, List.set_cons_succ])
                              refine anyH_take 6 100 (.slice (some ⟨b2, o2, none⟩) na0 cb0) rfl rfl (by kernel_rfl) (by kernel_rfl) (by kernel_rfl) (fun _ _ _ h => h) (.inl ⟨by rfl, fun w'' hS => by have q0 := HX2.out _ hS; go_simp⟩) hS0 ?_
                              (simp only [List.setIfInBounds_toArray, List.set_cons_zero, List.set_cons_succ])
                              refine anyH_take 7 101 (.int .i64 (k : Nat)) rfl rfl (by kernel_rfl) (by kernel_rfl) (by kernel_rfl) (fun _ _ _ h => h) (.inl ⟨by rfl, fun w'' hS => by go_simp⟩) hS0 ?_
                              (simp only [List.setIfInBounds_toArray, List.set_cons_zero, List.set_cons_succ])
                              refine anyH_take 8 102 (.pointer (some ⟨b2, o2 + k * 6, none⟩)) rfl rfl (by kernel_rfl) (by kernel_rfl) (by kernel_rfl) (fun _ _ _ h => h) (.inl ⟨by rfl, fun w'' hS => by have q0 := HK.out.1; have q1 := HK.out.2; go_simp⟩) hS0 ?_
                              (simp only [List.setIfInBounds_toArray, List.set_cons_zero, List.set_cons_succ])
                              refine anyH_take 9 103 (.agg (cpC x1).toArray) rfl rfl (by kernel_rfl) (by kernel_rfl) (by kernel_rfl) (fun _ _ _ h => h) (yieldsIf_load_mid rfl 49 (.tmp 102) rfl b2 (o2 + k * 6) rfl (cpC x1) _ (fun w'' hS => HY2.out w'' hS) Try.underlying49 rfl (info_size infoCp)) hS0 ?_
                              (simp only [List.setIfInBounds_toArray, List.set_cons_zero, List.set_cons_succ])
                              refine anyH_take 10 104 (.bool false) rfl rfl (by kernel_rfl) (by kernel_rfl) (by kernel_rfl) (fun _ _ _ h => h) (.inl ⟨by rfl, fun w'' hS => by go_simp⟩) hS0 ?_
                              (simp only [List.setIfInBounds_toArray, List.set_cons_zero, List.set_cons_succ])
                              refine wpAnyH_done (by kernel_rfl) ?_ _
                              have HF2 := Lib.hid hS0
                              clear hS0 hx1
                              go_wp2_with fail
                              refine ⟨⟨k + 1, by go_num, by have := HXY.out.2.2; omega, Lib.hid (fun i hi => ?_), HF2⟩, ?_⟩
                              · rcases Nat.lt_or_ge i k with h | h
                                · exact HP.out i h
                                · obtain rfl : i = k := by omega
                                  rw [HXY.out.1, HXY.out.2.1]
                              · simp [intOf]
                                have := HXY.out.2.2
                                omega
                            · have HD : Hid (x1 ≠ y1) := Lib.hid he
                              obtain rfl : r = false := by
                                rw [HR.out, decide_eq_false_iff_not]
                                intro e
                                have h5 := HXY.out.1
                                rw [e, HXY.out.2.1] at h5
                                injection h5 with h5
                                exact he h5.symm
                              clear he
                              go_wp2_with fail
                              refine wp_region_held_drew (S := fun w' => Fr (fun _ => False) W0 w') (by kernel_rfl) (HF.out.drew) (fun hS0 => ?_)
                              refine anyH_take 0 94 (.pointer (some ⟨w.heap.size, 3, none⟩)) rfl rfl (by kernel_rfl) (by kernel_rfl) (by kernel_rfl) (fun _ _ _ h => h) (.inl ⟨by rfl, fun w'' hS => by go_simp⟩) hS0 ?_
                              (simp only [List.setIfInBounds_toArray, List.set_cons_zero, List.set_cons_succ])
                              refine anyH_take 1 95 (.slice (some ⟨b1, o1, none⟩) na0 ca0) rfl rfl (by kernel_rfl) (by kernel_rfl) (by kernel_rfl) (fun _ _ _ h => h) (.inl ⟨by rfl, fun w'' hS => by have q0 := HX1.out _ hS; go_simp⟩) hS0 ?_
                              (simp only [List.setIfInBounds_toArray, List.set_cons_zero, List.set_cons_succ])
                              refine anyH_take 2 96 (.int .i64 (k : Nat)) rfl rfl (by kernel_rfl) (by kernel_rfl) (by kernel_rfl) (fun _ _ _ h => h) (.inl ⟨by rfl, fun w'' hS => by go_simp⟩) hS0 ?_
                              (simp only [List.setIfInBounds_toArray, List.set_cons_zero, List.set_cons_succ])
                              refine anyH_take 3 97 (.pointer (some ⟨b1, o1 + k * 6, none⟩)) rfl rfl (by kernel_rfl) (by kernel_rfl) (by kernel_rfl) (fun _ _ _ h => h) (.inl ⟨by rfl, fun w'' hS => by have q0 := HK.out.1; have q1 := HK.out.2; go_simp⟩) hS0 ?_
                              (simp only [List.setIfInBounds_toArray, List.set_cons_zero, List.set_cons_succ])
                              refine anyH_take 4 98 (.agg (cpC x1).toArray) rfl rfl (by kernel_rfl) (by kernel_rfl) (by kernel_rfl) (fun _ _ _ h => h) (yieldsIf_load_mid rfl 49 (.tmp 97) rfl b1 (o1 + k * 6) rfl (cpC x1) _ (fun w'' hS => HY1.out w'' hS) Try.underlying49 rfl (info_size infoCp)) hS0 ?_
                              (simp only [List.setIfInBounds_toArray, List.set_cons_zero, List.set_cons_succ])
                              refine anyH_take 5 99 (.pointer (some ⟨w.heap.size + 1, 3, none⟩)) rfl rfl (by kernel_rfl) (by kernel_rfl) (by kernel_rfl) (fun _ _ _ h => h) (.inl ⟨by rfl, fun w'' hS => by go_simp⟩) hS0 ?_
                              (simp only [List.setIfInBounds_toArray, List.set_cons_zero, List.set_cons_succ])
                              refine anyH_take 6 100 (.slice (some ⟨b2, o2, none⟩) na0 cb0) rfl rfl (by kernel_rfl) (by kernel_rfl) (by kernel_rfl) (fun _ _ _ h => h) (.inl ⟨by rfl, fun w'' hS => by have q0 := HX2.out _ hS; go_simp⟩) hS0 ?_
                              (simp only [List.setIfInBounds_toArray, List.set_cons_zero, List.set_cons_succ])
                              refine anyH_take 7 101 (.int .i64 (k : Nat)) rfl rfl (by kernel_rfl) (by kernel_rfl) (by kernel_rfl) (fun _ _ _ h => h) (.inl ⟨by rfl, fun w'' hS => by go_simp⟩) hS0 ?_
                              (simp only [List.setIfInBounds_toArray, List.set_cons_zero, List.set_cons_succ])
                              refine anyH_take 8 102 (.pointer (some ⟨b2, o2 + k * 6, none⟩)) rfl rfl (by kernel_rfl) (by kernel_rfl) (by kernel_rfl) (fun _ _ _ h => h) (.inl ⟨by rfl, fun w'' hS => by have q0 := HK.out.1; have q1 := HK.out.2; go_simp⟩) hS0 ?_
                              (simp only [List.setIfInBounds_toArray, List.set_cons_zero, List.set_cons_succ])
                              refine anyH_take 9 103 (.agg (cpC y1).toArray) rfl rfl (by kernel_rfl) (by kernel_rfl) (by kernel_rfl) (fun _ _ _ h => h) (yieldsIf_load_mid rfl 49 (.tmp 102) rfl b2 (o2 + k * 6) rfl (cpC y1) _ (fun w'' hS => HY2.out w'' hS) Try.underlying49 rfl (info_size infoCp)) hS0 ?_
                              (simp only [List.setIfInBounds_toArray, List.set_cons_zero, List.set_cons_succ])
                              refine anyH_take 10 104 (.bool true) rfl rfl (by kernel_rfl) (by kernel_rfl) (by kernel_rfl) (fun _ _ _ h => h) (.inl ⟨by rfl, fun w'' hS => by go_simp; exact cp_ne HD.out⟩) hS0 ?_
                              (simp only [List.setIfInBounds_toArray, List.set_cons_zero, List.set_cons_succ])
                              refine wpAnyH_done (by kernel_rfl) ?_ _
                              have HF2 := Lib.hid hS0
                              clear hS0 hx1
                              go_wp2_with fail
                              go_ret
                              exact ⟨rfl, HB.out.1.trans HF2.out (fun _ _ q => q)⟩
                          · obtain rfl : k = na0 := by omega
                            have H1 := HF
                            have HE0 := Lib.hid (list_same HL.out.1 HL.out.2.2.2.1 HP.out)
                            have hkk : ¬ (k : Int) < (k : Int) := by omega
                            clear hlt HP
                            go_wp2_with fail
                            clear hkk hx1 HF
                            go_loopw [6] (fun x wr => ∃ k : Nat, x = .int .i64 k ∧ k ≤ na1 ∧ Hid (∀ i, i < k → a.txs[i]? = b.txs[i]?) ∧ Hid (Fr (fun _ => False) W0 wr)) (fun x _ => na1 - (intOf x).toNat)
                            case atStart => exact ⟨0, rfl, Nat.zero_le _, Lib.hid (fun i hi => absurd hi (by omega)), H1⟩
                            case round =>
                              clear H1
                              obtain ⟨k, rfl, hk, HP, HF⟩ := hrel
                              have hx1 := cp_cell (HB.out.2.1.keep HF.out (fun q => q)) 4 rfl
                              by_cases hlt : k < na1
                              · obtain ⟨x1, hx⟩ : ∃ x, a.txs[k]? = some x := ⟨_, List.getElem?_eq_getElem (by rw [← HL.out.2.1]; exact hlt)⟩
                                obtain ⟨y1, hy⟩ : ∃ y, b.txs[k]? = some y := ⟨_, List.getElem?_eq_getElem (by rw [← HL.out.2.2.2.2.1]; exact hlt)⟩
                                obtain ⟨b1, o1, cc1, e1, hc1⟩ := HA.out.2.1.cell hx
                                obtain ⟨b2, o2, cc2, e2, hc2⟩ := HBB.out.2.1.cell hy
                                injection e1 with e1 e1n e1c
                                injection e2 with e2 e2n e2c
                                subst e1 e2
                                clear hx1
                                have hx1 := cp_cell (HB.out.2.1.keep HF.out (fun q => q)) 4 rfl
                                have HX1 : Hid (∀ W, Fr (fun _ => False) W0 W → W.cell? ⟨w.heap.size, 4, none⟩ = some (.slice (some ⟨b1, o1, none⟩) na1 ca1)) := Lib.hid (fun W f => cp_cell (HB.out.2.1.keep f (fun q => q)) 4 rfl)
                                have HX2 : Hid (∀ W, Fr (fun _ => False) W0 W → W.cell? ⟨w.heap.size + 1, 4, none⟩ = some (.slice (some ⟨b2, o2, none⟩) na1 cb1)) := Lib.hid (fun W f => cp_cell (HB.out.2.2.keep f (fun q => q)) 4 rfl)
                                have HY1 : Hid (∀ W, Fr (fun _ => False) W0 W → W.rangeAt b1 (o1 + k * 2) (txC x1)) := Lib.hid (fun W f j u hu => by have h5 := hc1 j u hu; exact (f.cell (Nat.lt_of_lt_of_le (World.block_lt_of_cell? w _ h5) HB.out.1.size) (fun q => q)).trans ((HB.out.1.cell (World.block_lt_of_cell? w _ h5) (fun q => q)).trans h5))
                                have HY2 : Hid (∀ W, Fr (fun _ => False) W0 W → W.rangeAt b2 (o2 + k * 2) (txC y1)) := Lib.hid (fun W f j u hu => by have h5 := hc2 j u hu; exact (f.cell (Nat.lt_of_lt_of_le (World.block_lt_of_cell? w _ h5) HB.out.1.size) (fun q => q)).trans ((HB.out.1.cell (World.block_lt_of_cell? w _ h5) (fun q => q)).trans h5))
                                have hk0 : (0 : Int) ≤ (k : Int) := by omega
                                have hkm : (k : Int) < (na1 : Int) := by omega
                                have HK := Lib.hid (And.intro hk0 hkm)
                                have HXY := Lib.hid (And.intro hx (And.intro hy hlt))
                                clear hx hy hc1 hc2 e1n e1c e2n e2c hlt
                                by_cases he : x1 = y1
                                · subst he
                                  go_wp2_with fail
                                  refine wp_region_held_drew (S := fun w' => Fr (fun _ => False) W0 w') (by kernel_rfl) (HF.out.drew) (fun hS0 => ?_)
                                  refine anyH_take 0 112 (.pointer (some ⟨w.heap.size, 4, none⟩)) rfl rfl (by kernel_rfl) (by kernel_rfl) (by kernel_rfl) (fun _ _ _ h => h) (.inl ⟨by rfl, fun w'' hS => by go_simp⟩) hS0 ?_
                                  (simp only [List.setIfInBounds_toArray, List.set_cons_zero, List.set_cons_succ])
                                  refine anyH_take 1 113 (.slice (some ⟨b1, o1, none⟩) na1 ca1) rfl rfl (by kernel_rfl) (by kernel_rfl) (by kernel_rfl) (fun _ _ _ h => h) (.inl ⟨by rfl, fun w'' hS => by have q0 := HX1.out _ hS; go_simp⟩) hS0 ?_
                                  (simp only [List.setIfInBounds_toArray, List.set_cons_zero, List.set_cons_succ])
                                  refine anyH_take 2 114 (.int .i64 (k : Nat)) rfl rfl (by kernel_rfl) (by kernel_rfl) (by kernel_rfl) (fun _ _ _ h => h) (.inl ⟨by rfl, fun w'' hS => by go_simp⟩) hS0 ?_
                                  (simp only [List.setIfInBounds_toArray, List.set_cons_zero, List.set_cons_succ])
                                  refine anyH_take 3 115 (.pointer (some ⟨b1, o1 + k * 2, none⟩)) rfl rfl (by kernel_rfl) (by kernel_rfl) (by kernel_rfl) (fun _ _ _ h => h) (.inl ⟨by rfl, fun w'' hS => by have q0 := HK.out.1; have q1 := HK.out.2; go_simp⟩) hS0 ?_
                                  (simp only [List.setIfInBounds_toArray, List.set_cons_zero, List.set_cons_succ])
                                  refine anyH_take 4 116 (.agg (txC x1).toArray) rfl rfl (by kernel_rfl) (by kernel_rfl) (by kernel_rfl) (fun _ _ _ h => h) (yieldsIf_load_mid rfl 62 (.tmp 115) rfl b1 (o1 + k * 2) rfl (txC x1) _ (fun w'' hS => HY1.out w'' hS) Try.underlying62 rfl (info_size infoTx)) hS0 ?_
                                  (simp only [List.setIfInBounds_toArray, List.set_cons_zero, List.set_cons_succ])
                                  refine anyH_take 5 117 (.pointer (some ⟨w.heap.size + 1, 4, none⟩)) rfl rfl (by kernel_rfl) (by kernel_rfl) (by kernel_rfl) (fun _ _ _ h => h) (.inl ⟨by rfl, fun w'' hS => by go_simp⟩) hS0 ?_
                                  (simp only [List.setIfInBounds_toArray, List.set_cons_zero, List.set_cons_succ])
                                  refine anyH_take 6 118 (.slice (some ⟨b2, o2, none⟩) na1 cb1) rfl rfl (by kernel_rfl) (by kernel_rfl) (by kernel_rfl) (fun _ _ _ h => h) (.inl ⟨by rfl, fun w'' hS => by have q0 := HX2.out _ hS; go_simp⟩) hS0 ?_
                                  (simp only [List.setIfInBounds_toArray, List.set_cons_zero, List.set_cons_succ])
                                  refine anyH_take 7 119 (.int .i64 (k : Nat)) rfl rfl (by kernel_rfl) (by kernel_rfl) (by kernel_rfl) (fun _ _ _ h => h) (.inl ⟨by rfl, fun w'' hS => by go_simp⟩) hS0 ?_
                                  (simp only [List.setIfInBounds_toArray, List.set_cons_zero, List.set_cons_succ])
                                  refine anyH_take 8 120 (.pointer (some ⟨b2, o2 + k * 2, none⟩)) rfl rfl (by kernel_rfl) (by kernel_rfl) (by kernel_rfl) (fun _ _ _ h => h) (.inl ⟨by rfl, fun w'' hS => by have q0 := HK.out.1; have q1 := HK.out.2; go_simp⟩) hS0 ?_
                                  (simp only [List.setIfInBounds_toArray, List.set_cons_zero, List.set_cons_succ])
                                  refine anyH_take 9 121 (.agg (txC x1).toArray) rfl rfl (by kernel_rfl) (by kernel_rfl) (by kernel_rfl) (fun _ _ _ h => h) (yieldsIf_load_mid rfl 62 (.tmp 120) rfl b2 (o2 + k * 2) rfl (txC x1) _ (fun w'' hS => HY2.out w'' hS) Try.underlying62 rfl (info_size infoTx)) hS0 ?_
                                  (simp only [List.setIfInBounds_toArray, List.set_cons_zero, List.set_cons_succ])
                                  refine anyH_take 10 122 (.bool false) rfl rfl (by kernel_rfl) (by kernel_rfl) (by kernel_rfl) (fun _ _ _ h => h) (.inl ⟨by rfl, fun w'' hS => by go_simp⟩) hS0 ?_
                                  (simp only [List.setIfInBounds_toArray, List.set_cons_zero, List.set_cons_succ])
                                  refine wpAnyH_done (by kernel_rfl) ?_ _
                                  have HF2 := Lib.hid hS0
                                  clear hS0 hx1
                                  go_wp2_with fail
                                  refine ⟨⟨k + 1, by go_num, by have := HXY.out.2.2; omega, Lib.hid (fun i hi => ?_), HF2⟩, ?_⟩
                                  · rcases Nat.lt_or_ge i k with h | h
                                    · exact HP.out i h
                                    · obtain rfl : i = k := by omega
                                      rw [HXY.out.1, HXY.out.2.1]
                                  · simp [intOf]
                                    have := HXY.out.2.2
                                    omega
                                · have HD : Hid (x1 ≠ y1) := Lib.hid he
                                  obtain rfl : r = false := by
                                    rw [HR.out, decide_eq_false_iff_not]
                                    intro e
                                    have h5 := HXY.out.1
                                    rw [e, HXY.out.2.1] at h5
                                    injection h5 with h5
                                    exact he h5.symm
                                  clear he
                                  go_wp2_with fail
                                  refine wp_region_held_drew (S := fun w' => Fr (fun _ => False) W0 w') (by kernel_rfl) (HF.out.drew) (fun hS0 => ?_)
                                  refine anyH_take 0 112 (.pointer (some ⟨w.heap.size, 4, none⟩)) rfl rfl (by kernel_rfl) (by kernel_rfl) (by kernel_rfl) (fun _ _ _ h => h) (.inl ⟨by rfl, fun w'' hS => by go_simp⟩) hS0 ?_
                                  (simp only [List.setIfInBounds_toArray, List.set_cons_zero, List.set_cons_succ])
                                  refine anyH_take 1 113 (.slice (some ⟨b1, o1, none⟩) na1 ca1) rfl rfl (by kernel_rfl) (by kernel_rfl) (by kernel_rfl) (fun _ _ _ h => h) (.inl ⟨by rfl, fun w'' hS => by have q0 := HX1.out _ hS; go_simp⟩) hS0 ?_
                                  (simp only [List.setIfInBounds_toArray, List.set_cons_zero, List.set_cons_succ])
                                  refine anyH_take 2 114 (.int .i64 (k : Nat)) rfl rfl (by kernel_rfl) (by kernel_rfl) (by kernel_rfl) (fun _ _ _ h => h) (.inl ⟨by rfl, fun w'' hS => by go_simp⟩) hS0 ?_
                                  (simp only [List.setIfInBounds_toArray, List.set_cons_zero, List.set_cons_succ])
                                  refine anyH_take 3 115 (.pointer (some ⟨b1, o1 + k * 2, none⟩)) rfl rfl (by kernel_rfl) (by kernel_rfl) (by kernel_rfl) (fun _ _ _ h => h) (.inl ⟨by rfl, fun w'' hS => by have q0 := HK.out.1; have q1 := HK.out.2; go_simp⟩) hS0 ?_
                                  (simp only [List.setIfInBounds_toArray, List.set_cons_zero, List.set_cons_succ])
                                  refine anyH_take 4 116 (.agg (txC x1).toArray) rfl rfl (by kernel_rfl) (by kernel_rfl) (by kernel_rfl) (fun _ _ _ h => h) (yieldsIf_load_mid rfl 62 (.tmp 115) rfl b1 (o1 + k * 2) rfl (txC x1) _ (fun w'' hS => HY1.out w'' hS) Try.underlying62 rfl (info_size infoTx)) hS0 ?_
                                  (simp only [List.setIfInBounds_toArray, List.set_cons_zero, List.set_cons_succ])
                                  refine anyH_take 5 117 (.pointer (some ⟨w.heap.size + 1, 4, none⟩)) rfl rfl (by kernel_rfl) (by kernel_rfl) (by kernel_rfl) (fun _ _ _ h => h) (.inl ⟨by rfl, fun w'' hS => by go_simp⟩) hS0 ?_
                                  (simp only [List.setIfInBounds_toArray, List.set_cons_zero, List.set_cons_succ])
                                  refine anyH_take 6 118 (.slice (some ⟨b2, o2, none⟩) na1 cb1) rfl rfl (by kernel_rfl) (by kernel_rfl) (by kernel_rfl) (fun _ _ _ h => h) (.inl ⟨by rfl, fun w'' hS => by have q0 := HX2.out _ hS; go_simp⟩) hS0 ?_
                                  (simp only [List.setIfInBounds_toArray, List.set_cons_zero, List.set_cons_succ])
                                  refine anyH_take 7 119 (.int .i64 (k : Nat)) rfl rfl (by kernel_rfl) (by kernel_rfl) (by kernel_rfl) (fun _ _ _ h => h) (.inl ⟨by rfl, fun w'' hS => by go_simp⟩) hS0 ?_
                                  (simp only [List.setIfInBounds_toArray, List.set_cons_zero, List.set_cons_succ])
                                  refine anyH_take 8 120 (.pointer (some ⟨b2, o2 + k * 2, none⟩)) rfl rfl (by kernel_rfl) (by kernel_rfl) (by kernel_rfl) (fun _ _ _ h => h) (.inl ⟨by rfl, fun w'' hS => by have q0 := HK.out.1; have q1 := HK.out.2; go_simp⟩) hS0 ?_
                                  (simp only [List.setIfInBounds_toArray, List.set_cons_zero, List.set_cons_succ])
                                  refine anyH_take 9 121 (.agg (txC y1).toArray) rfl rfl (by kernel_rfl) (by kernel_rfl) (by kernel_rfl) (fun _ _ _ h => h) (yieldsIf_load_mid rfl 62 (.tmp 120) rfl b2 (o2 + k * 2) rfl (txC y1) _ (fun w'' hS => HY2.out w'' hS) Try.underlying62 rfl (info_size infoTx)) hS0 ?_
                                  (simp only [List.setIfInBounds_toArray, List.set_cons_zero, List.set_cons_succ])
                                  refine anyH_take 10 122 (.bool true) rfl rfl (by kernel_rfl) (by kernel_rfl) (by kernel_rfl) (fun _ _ _ h => h) (.inl ⟨by rfl, fun w'' hS => by go_simp; exact tx_ne HD.out⟩) hS0 ?_
                                  (simp only [List.setIfInBounds_toArray, List.set_cons_zero, List.set_cons_succ])
                                  refine wpAnyH_done (by kernel_rfl) ?_ _
                                  have HF2 := Lib.hid hS0
                                  clear hS0 hx1
                                  go_wp2_with fail
                                  go_ret
                                  exact ⟨rfl, HB.out.1.trans HF2.out (fun _ _ q => q)⟩
                              · obtain rfl : k = na1 := by omega
                                have H2 := HF
                                have HE1 := Lib.hid (list_same HL.out.2.1 HL.out.2.2.2.2.1 HP.out)
                                have hkk : ¬ (k : Int) < (k : Int) := by omega
                                clear hlt HP
                                go_wp2_with fail
                                clear hkk hx1 HF
                                go_loopw [7] (fun x wr => ∃ k : Nat, x = .int .i64 k ∧ k ≤ na2 ∧ Hid (∀ i, i < k → a.his[i]? = b.his[i]?) ∧ Hid (Fr (fun _ => False) W0 wr)) (fun x _ => na2 - (intOf x).toNat)
                                case atStart => exact ⟨0, rfl, Nat.zero_le _, Lib.hid (fun i hi => absurd hi (by omega)), H2⟩
                                case round =>
                                  clear H2
                                  obtain ⟨k, rfl, hk, HP, HF⟩ := hrel
                                  have hx1 := cp_cell (HB.out.2.1.keep HF.out (fun q => q)) 10 rfl
                                  by_cases hlt : k < na2
                                  · obtain ⟨x1, hx⟩ : ∃ x, a.his[k]? = some x := ⟨_, List.getElem?_eq_getElem (by rw [← HL.out.2.2.1]; exact hlt)⟩
                                    obtain ⟨y1, hy⟩ : ∃ y, b.his[k]? = some y := ⟨_, List.getElem?_eq_getElem (by rw [← HL.out.2.2.2.2.2]; exact hlt)⟩
                                    obtain ⟨b1, o1, cc1, e1, hc1⟩ := HA.out.2.2.cell hx
                                    obtain ⟨b2, o2, cc2, e2, hc2⟩ := HBB.out.2.2.cell hy
                                    injection e1 with e1 e1n e1c
                                    injection e2 with e2 e2n e2c
                                    subst e1 e2
                                    clear hx1
                                    have hx1 := cp_cell (HB.out.2.1.keep HF.out (fun q => q)) 10 rfl
                                    have HX1 : Hid (∀ W, Fr (fun _ => False) W0 W → W.cell? ⟨w.heap.size, 10, none⟩ = some (.slice (some ⟨b1, o1, none⟩) na2 ca2)) := Lib.hid (fun W f => cp_cell (HB.out.2.1.keep f (fun q => q)) 10 rfl)
                                    have HX2 : Hid (∀ W, Fr (fun _ => False) W0 W → W.cell? ⟨w.heap.size + 1, 10, none⟩ = some (.slice (some ⟨b2, o2, none⟩) na2 cb2)) := Lib.hid (fun W f => cp_cell (HB.out.2.2.keep f (fun q => q)) 10 rfl)
                                    have HY1 : Hid (∀ W, Fr (fun _ => False) W0 W → W.rangeAt b1 (o1 + k * 4) (evC x1)) := Lib.hid (fun W f j u hu => by have h5 := hc1 j u hu; exact (f.cell (Nat.lt_of_lt_of_le (World.block_lt_of_cell? w _ h5) HB.out.1.size) (fun q => q)).trans ((HB.out.1.cell (World.block_lt_of_cell? w _ h5) (fun q => q)).trans h5))
                                    have HY2 : Hid (∀ W, Fr (fun _ => False) W0 W → W.rangeAt b2 (o2 + k * 4) (evC y1)) := Lib.hid (fun W f j u hu => by have h5 := hc2 j u hu; exact (f.cell (Nat.lt_of_lt_of_le (World.block_lt_of_cell? w _ h5) HB.out.1.size) (fun q => q)).trans ((HB.out.1.cell (World.block_lt_of_cell? w _ h5) (fun q => q)).trans h5))
                                    have hk0 : (0 : Int) ≤ (k : Int) := by omega
                                    have hkm : (k : Int) < (na2 : Int) := by omega
                                    have HK := Lib.hid (And.intro hk0 hkm)
                                    have HXY := Lib.hid (And.intro hx (And.intro hy hlt))
                                    clear hx hy hc1 hc2 e1n e1c e2n e2c hlt
                                    by_cases he : x1 = y1
                                    · subst he
                                      go_wp2_with fail
                                      refine wp_region_held_drew (S := fun w' => Fr (fun _ => False) W0 w') (by kernel_rfl) (HF.out.drew) (fun hS0 => ?_)
                                      refine anyH_take 0 130 (.pointer (some ⟨w.heap.size, 10, none⟩)) rfl rfl (by kernel_rfl) (by kernel_rfl) (by kernel_rfl) (fun _ _ _ h => h) (.inl ⟨by rfl, fun w'' hS => by go_simp⟩) hS0 ?_
                                      (simp only [List.setIfInBounds_toArray, List.set_cons_zero, List.set_cons_succ])
                                      refine anyH_take 1 131 (.slice (some ⟨b1, o1, none⟩) na2 ca2) rfl rfl (by kernel_rfl) (by kernel_rfl) (by kernel_rfl) (fun _ _ _ h => h) (.inl ⟨by rfl, fun w'' hS => by have q0 := HX1.out _ hS; go_simp⟩) hS0 ?_
                                      (simp only [List.setIfInBounds_toArray, List.set_cons_zero, List.set_cons_succ])
                                      refine anyH_take 2 132 (.int .i64 (k : Nat)) rfl rfl (by kernel_rfl) (by kernel_rfl) (by kernel_rfl) (fun _ _ _ h => h) (.inl ⟨by rfl, fun w'' hS => by go_simp⟩) hS0 ?_
                                      (simp only [List.setIfInBounds_toArray, List.set_cons_zero, List.set_cons_succ])
                                      refine anyH_take 3 133 (.pointer (some ⟨b1, o1 + k * 4, none⟩)) rfl rfl (by kernel_rfl) (by kernel_rfl) (by kernel_rfl) (fun _ _ _ h => h) (.inl ⟨by rfl, fun w'' hS => by have q0 := HK.out.1; have q1 := HK.out.2; go_simp⟩) hS0 ?_
                                      (simp only [List.setIfInBounds_toArray, List.set_cons_zero, List.set_cons_succ])
                                      refine anyH_take 4 134 (.agg (evC x1).toArray) rfl rfl (by kernel_rfl) (by kernel_rfl) (by kernel_rfl) (fun _ _ _ h => h) (yieldsIf_load_mid rfl 51 (.tmp 133) rfl b1 (o1 + k * 4) rfl (evC x1) _ (fun w'' hS => HY1.out w'' hS) Try.underlying51 rfl (info_size infoEv)) hS0 ?_
                                      (simp only [List.setIfInBounds_toArray, List.set_cons_zero, List.set_cons_succ])
                                      refine anyH_take 5 135 (.pointer (some ⟨w.heap.size + 1, 10, none⟩)) rfl rfl (by kernel_rfl) (by kernel_rfl) (by kernel_rfl) (fun _ _ _ h => h) (.inl ⟨by rfl, fun w'' hS => by go_simp⟩) hS0 ?_
                                      (simp only [List.setIfInBounds_toArray, List.set_cons_zero, List.set_cons_succ])
                                      refine anyH_take 6 136 (.slice (some ⟨b2, o2, none⟩) na2 cb2) rfl rfl (by kernel_rfl) (by kernel_rfl) (by kernel_rfl) (fun _ _ _ h => h) (.inl ⟨by rfl, fun w'' hS => by have q0 := HX2.out _ hS; go_simp⟩) hS0 ?_
                                      (simp only [List.setIfInBounds_toArray, List.set_cons_zero, List.set_cons_succ])
                                      refine anyH_take 7 137 (.int .i64 (k : Nat)) rfl rfl (by kernel_rfl) (by kernel_rfl) (by kernel_rfl) (fun _ _ _ h => h) (.inl ⟨by rfl, fun w'' hS => by go_simp⟩) hS0 ?_
                                      (simp only [List.setIfInBounds_toArray, List.set_cons_zero, List.set_cons_succ])
                                      refine anyH_take 8 138 (.pointer (some ⟨b2, o2 + k * 4, none⟩)) rfl rfl (by kernel_rfl) (by kernel_rfl) (by kernel_rfl) (fun _ _ _ h => h) (.inl ⟨by rfl, fun w'' hS => by have q0 := HK.out.1; have q1 := HK.out.2; go_simp⟩) hS0 ?_
                                      (simp only [List.setIfInBounds_toArray, List.set_cons_zero, List.set_cons_succ])
                                      refine anyH_take 9 139 (.agg (evC x1).toArray) rfl rfl (by kernel_rfl) (by kernel_rfl) (by kernel_rfl) (fun _ _ _ h => h) (yieldsIf_load_mid rfl 51 (.tmp 138) rfl b2 (o2 + k * 4) rfl (evC x1) _ (fun w'' hS => HY2.out w'' hS) Try.underlying51 rfl (info_size infoEv)) hS0 ?_
                                      (simp only [List.setIfInBounds_toArray, List.set_cons_zero, List.set_cons_succ])
                                      refine anyH_take 10 140 (.bool false) rfl rfl (by kernel_rfl) (by kernel_rfl) (by kernel_rfl) (fun _ _ _ h => h) (.inl ⟨by rfl, fun w'' hS => by go_simp⟩) hS0 ?_
                                      (simp only [List.setIfInBounds_toArray, List.set_cons_zero, List.set_cons_succ])
                                      refine wpAnyH_done (by kernel_rfl) ?_ _
                                      have HF2 := Lib.hid hS0
                                      clear hS0 hx1
                                      go_wp2_with fail
                                      refine ⟨⟨k + 1, by go_num, by have := HXY.out.2.2; omega, Lib.hid (fun i hi => ?_), HF2⟩, ?_⟩
                                      · rcases Nat.lt_or_ge i k with h | h
                                        · exact HP.out i h
                                        · obtain rfl : i = k := by omega
                                          rw [HXY.out.1, HXY.out.2.1]
                                      · simp [intOf]
                                        have := HXY.out.2.2
                                        omega
                                    · have HD : Hid (x1 ≠ y1) := Lib.hid he
                                      obtain rfl : r = false := by
                                        rw [HR.out, decide_eq_false_iff_not]
                                        intro e
                                        have h5 := HXY.out.1
                                        rw [e, HXY.out.2.1] at h5
                                        injection h5 with h5
                                        exact he h5.symm
                                      clear he
                                      go_wp2_with fail
                                      refine wp_region_held_drew (S := fun w' => Fr (fun _ => False) W0 w') (by kernel_rfl) (HF.out.drew) (fun hS0 => ?_)
                                      refine anyH_take 0 130 (.pointer (some ⟨w.heap.size, 10, none⟩)) rfl rfl (by kernel_rfl) (by kernel_rfl) (by kernel_rfl) (fun _ _ _ h => h) (.inl ⟨by rfl, fun w'' hS => by go_simp⟩) hS0 ?_
                                      (simp only [List.setIfInBounds_toArray, List.set_cons_zero, List.set_cons_succ])
                                      refine anyH_take 1 131 (.slice (some ⟨b1, o1, none⟩) na2 ca2) rfl rfl (by kernel_rfl) (by kernel_rfl) (by kernel_rfl) (fun _ _ _ h => h) (.inl ⟨by rfl, fun w'' hS => by have q0 := HX1.out _ hS; go_simp⟩) hS0 ?_
                                      (simp only [List.setIfInBounds_toArray, List.set_cons_zero, List.set_cons_succ])
                                      refine anyH_take 2 132 (.int .i64 (k : Nat)) rfl rfl (by kernel_rfl) (by kernel_rfl) (by kernel_rfl) (fun _ _ _ h => h) (.inl ⟨by rfl, fun w'' hS => by go_simp⟩) hS0 ?_
                                      (simp only [List.setIfInBounds_toArray, List.set_cons_zero, List.set_cons_succ])
                                      refine anyH_take 3 133 (.pointer (some ⟨b1, o1 + k * 4, none⟩)) rfl rfl (by kernel_rfl) (by kernel_rfl) (by kernel_rfl) (fun _ _ _ h => h) (.inl ⟨by rfl, fun w'' hS => by have q0 := HK.out.1; have q1 := HK.out.2; go_simp⟩) hS0 ?_
                                      (simp only [List.setIfInBounds_toArray, List.set_cons_zero, List.set_cons_succ])
                                      refine anyH_take 4 134 (.agg (evC x1).toArray) rfl rfl (by kernel_rfl) (by kernel_rfl) (by kernel_rfl) (fun _ _ _ h => h) (yieldsIf_load_mid rfl 51 (.tmp 133) rfl b1 (o1 + k * 4) rfl (evC x1) _ (fun w'' hS => HY1.out w'' hS) Try.underlying51 rfl (info_size infoEv)) hS0 ?_
                                      (simp only [List.setIfInBounds_toArray, List.set_cons_zero, List.set_cons_succ])
                                      refine anyH_take 5 135 (.pointer (some ⟨w.heap.size + 1, 10, none⟩)) rfl rfl (by kernel_rfl) (by kernel_rfl) (by kernel_rfl) (fun _ _ _ h => h) (.inl ⟨by rfl, fun w'' hS => by go_simp⟩) hS0 ?_
                                      (simp only [List.setIfInBounds_toArray, List.set_cons_zero, List.set_cons_succ])
                                      refine anyH_take 6 136 (.slice (some ⟨b2, o2, none⟩) na2 cb2) rfl rfl (by kernel_rfl) (by kernel_rfl) (by kernel_rfl) (fun _ _ _ h => h) (.inl ⟨by rfl, fun w'' hS => by have q0 := HX2.out _ hS; go_simp⟩) hS0 ?_
                                      (simp only [List.setIfInBounds_toArray, List.set_cons_zero, List.set_cons_succ])
                                      refine anyH_take 7 137 (.int .i64 (k : Nat)) rfl rfl (by kernel_rfl) (by kernel_rfl) (by kernel_rfl) (fun _ _ _ h => h) (.inl ⟨by rfl, fun w'' hS => by go_simp⟩) hS0 ?_
                                      (simp only [List.setIfInBounds_toArray, List.set_cons_zero, List.set_cons_succ])
                                      refine anyH_take 8 138 (.pointer (some ⟨b2, o2 + k * 4, none⟩)) rfl rfl (by kernel_rfl) (by kernel_rfl) (by kernel_rfl) (fun _ _ _ h => h) (.inl ⟨by rfl, fun w'' hS => by have q0 := HK.out.1; have q1 := HK.out.2; go_simp⟩) hS0 ?_
                                      (simp only [List.setIfInBounds_toArray, List.set_cons_zero, List.set_cons_succ])
                                      refine anyH_take 9 139 (.agg (evC y1).toArray) rfl rfl (by kernel_rfl) (by kernel_rfl) (by kernel_rfl) (fun _ _ _ h => h) (yieldsIf_load_mid rfl 51 (.tmp 138) rfl b2 (o2 + k * 4) rfl (evC y1) _ (fun w'' hS => HY2.out w'' hS) Try.underlying51 rfl (info_size infoEv)) hS0 ?_
                                      (simp only [List.setIfInBounds_toArray, List.set_cons_zero, List.set_cons_succ])
                                      refine anyH_take 10 140 (.bool true) rfl rfl (by kernel_rfl) (by kernel_rfl) (by kernel_rfl) (fun _ _ _ h => h) (.inl ⟨by rfl, fun w'' hS => by go_simp; exact ev_ne HD.out⟩) hS0 ?_
                                      (simp only [List.setIfInBounds_toArray, List.set_cons_zero, List.set_cons_succ])
                                      refine wpAnyH_done (by kernel_rfl) ?_ _
                                      have HF2 := Lib.hid hS0
                                      clear hS0 hx1
                                      go_wp2_with fail
                                      go_ret
                                      exact ⟨rfl, HB.out.1.trans HF2.out (fun _ _ q => q)⟩
                                  · obtain rfl : k = na2 := by omega
                                    have H3 := HF
                                    have HE2 := Lib.hid (list_same HL.out.2.2.1 HL.out.2.2.2.2.2 HP.out)
                                    have hkk : ¬ (k : Int) < (k : Int) := by omega
                                    clear hlt HP
                                    obtain rfl : r = true := by
                                      rw [HR.out, decide_eq_true_eq]
                                      obtain ⟨q0, q1, q2, q3, q4, q5, q6, q7⟩ := HG.out
                                      have p0 := HE0.out
                                      have p1 := HE1.out
                                      have p2 := HE2.out
                                      cases a
                                      cases b
                                      simp only at q0 q1 q2 q3 q4 q5 q6 q7 p0 p1 p2
                                      rw [q0, q1, q2, q3, q4, q5, q6, q7, p0, p1, p2]
                                    go_wp2_with fail
                                    go_ret
                                    exact ⟨rfl, HB.out.1.trans HF.out (fun _ _ q => q)⟩
                      · have j2 : ((na2 : Int) != (nb2 : Int)) = true := by
                          rw [bne_iff_ne]
                          omega
                        obtain rfl : r = false := by
                          rw [HR.out, decide_eq_false_iff_not]
                          intro e
                          have hl := HL.out
                          rw [e] at hl
                          omega
                        clear la0 la1 la2 lb0 lb1 lb2
                        subst m0
                        subst m1
                        go_enter Try.func14, Try.ntmps14
                        go_wp2_with fail
                        go_ret
                        exact ⟨rfl, HB.out.1⟩
                    · have j1 : ((na1 : Int) != (nb1 : Int)) = true := by
                        rw [bne_iff_ne]
                        omega
                      obtain rfl : r = false := by
                        rw [HR.out, decide_eq_false_iff_not]
                        intro e
                        have hl := HL.out
                        rw [e] at hl
                        omega
                      clear la0 la1 la2 lb0 lb1 lb2
                      subst m0
                      go_enter Try.func14, Try.ntmps14
                      go_wp2_with fail
                      go_ret
                      exact ⟨rfl, HB.out.1⟩
                  · have j0 : ((na0 : Int) != (nb0 : Int)) = true := by
                      rw [bne_iff_ne]
                      omega
                    obtain rfl : r = false := by
                      rw [HR.out, decide_eq_false_iff_not]
                      intro e
                      have hl := HL.out
                      rw [e] at hl
                      omega
                    clear la0 la1 la2 lb0 lb1 lb2
                    go_enter Try.func14, Try.ntmps14
                    go_wp2_with fail
                    go_ret
                    exact ⟨rfl, HB.out.1⟩
                · have k7 : (a.pos != b.pos) = true := by
                    rw [bne_iff_ne]
                    intro e
                    exact g7 (by exact e)
                  obtain rfl : r = false := by
                    rw [HR.out, decide_eq_false_iff_not]
                    intro e
                    exact g7 (by rw [e])
                  clear la0 la1 la2 lb0 lb1 lb2
                  go_enter Try.func14, Try.ntmps14
                  go_wp2_with fail
                  go_ret
                  exact ⟨rfl, HB.out.1⟩
              · have k6 : (a.vou != b.vou) = true := by
                  rw [bne_iff_ne]
                  intro e
                  exact g6 (by exact e)
                obtain rfl : r = false := by
                  rw [HR.out, decide_eq_false_iff_not]
                  intro e
                  exact g6 (by rw [e])
                clear la0 la1 la2 lb0 lb1 lb2
                go_enter Try.func14, Try.ntmps14
                go_wp2_with fail
                go_ret
                exact ⟨rfl, HB.out.1⟩
            · have k5 : ((a.fst : Int) != (b.fst : Int)) = true := by
                rw [bne_iff_ne]
                intro e
                exact g5 (by omega)
              obtain rfl : r = false := by
                rw [HR.out, decide_eq_false_iff_not]
                intro e
                exact g5 (by rw [e])
              clear la0 la1 la2 lb0 lb1 lb2
              go_enter Try.func14, Try.ntmps14
              go_wp2_with fail
              go_ret
              exact ⟨rfl, HB.out.1⟩
          · have k4 : ((a.org : Int) != (b.org : Int)) = true := by
              rw [bne_iff_ne]
              intro e
              exact g4 (by omega)
            obtain rfl : r = false := by
              rw [HR.out, decide_eq_false_iff_not]
              intro e
              exact g4 (by rw [e])
            clear la0 la1 la2 lb0 lb1 lb2
            go_enter Try.func14, Try.ntmps14
            go_wp2_with fail
            go_ret
            exact ⟨rfl, HB.out.1⟩
        · have k3 : ((a.prv : Int) != (b.prv : Int)) = true := by
            rw [bne_iff_ne]
            intro e
            exact g3 (by omega)
          obtain rfl : r = false := by
            rw [HR.out, decide_eq_false_iff_not]
            intro e
            exact g3 (by rw [e])
          clear la0 la1 la2 lb0 lb1 lb2
          go_enter Try.func14, Try.ntmps14
          go_wp2_with fail
          go_ret
          exact ⟨rfl, HB.out.1⟩
      · have k2 : (a.iss != b.iss) = true := by
          rw [bne_iff_ne]
          intro e
          exact g2 (by exact e)
        obtain rfl : r = false := by
          rw [HR.out, decide_eq_false_iff_not]
          intro e
          exact g2 (by rw [e])
        clear la0 la1 la2 lb0 lb1 lb2
        go_enter Try.func14, Try.ntmps14
        go_wp2_with fail
        go_ret
        exact ⟨rfl, HB.out.1⟩
    · have k1 : (a.loc.toList != b.loc.toList) = true := by
        rw [bne_iff_ne]
        intro e
        exact g1 (by exact (ByteArray.ext (Array.toList_inj.1 (by rw [← ByteArray.toList_eq, ← ByteArray.toList_eq, e]))))
      have k1a : (a.loc.toList == b.loc.toList) = false := by rw [bne_iff_ne] at k1; rw [beq_eq_false_iff_ne]; exact k1
      have k1b : ¬ a.loc.toList = b.loc.toList := by rw [beq_eq_false_iff_ne] at k1a; exact k1a
      obtain rfl : r = false := by
        rw [HR.out, decide_eq_false_iff_not]
        intro e
        exact g1 (by rw [e])
      clear la0 la1 la2 lb0 lb1 lb2
      go_enter Try.func14, Try.ntmps14
      go_wp2_with fail
      go_ret
      exact ⟨rfl, HB.out.1⟩
  · have k0 : ((a.num : Int) != (b.num : Int)) = true := by
      rw [bne_iff_ne]
      intro e
      exact g0 (by omega)
    obtain rfl : r = false := by
      rw [HR.out, decide_eq_false_iff_not]
      intro e
      exact g0 (by rw [e])
    clear la0 la1 la2 lb0 lb1 lb2
    go_enter Try.func14, Try.ntmps14
    go_wp2_with fail
    go_ret
    exact ⟨rfl, HB.out.1⟩
end Go.Proofs.Ytmopkfjnjbimnaa
