/- couponref04.Same, SameAll. -/
import Derived.Test.YtjdbgojnpnlblaaGreatVrc
import Derived.Laws.StructEq
namespace Go.Proofs.YtjdbgojnpnlblaaGreat
open Go.RowKit

theorem page_equal (l m : List UInt8) (hl : l.length = 512) (hm : m.length = 512) (w : World) : (Op.equalIn 9999 117 (av l) (av m)).run Tryz.prog w = .ok (decide (l = m)) w := by
  obtain ⟨i0, hi, _⟩ := info_parts infoU8
  have h := run_equalIn_array (P := Tryz.prog) w 9998 (t := 117) (cellsB l).toArray (cellsB m).toArray Tryz.underlying117 hi
  rw [eqItems_bytes 9997 l m w (List.range 512) (fun i hi => by have := List.mem_range.1 hi; omega)] at h
  have e := all_same (l := l) (m := m) (by omega)
  rw [hl] at e
  rw [e] at h
  exact h
theorem int_equal (d : Nat) (a b : Int) (w : World) : (Op.equalIn (d + 1) 3 (.int .i64 a) (.int .i64 b)).run Tryz.prog w = .ok (a == b) w := by
  simp only [Op.equalIn, Sem.run_bind, run_underlying Tryz.underlying3, Result.andThen_ok]
  simp
theorem part_num (x : Chg) (w : World) : (part 3 (chC x).toArray 0).run Tryz.prog w = .ok (.int .i64 x.n) w :=
  run_part_plain w (by kernel_rfl) rfl
theorem part_page (x : Chg) (hx : x.p.length = 512) (w : World) : (part 117 (chC x).toArray 1).run Tryz.prog w = .ok (av x.p) w := by
  obtain ⟨i0, hi, hz0, hz1, hz2⟩ := info_parts infoPg
  unfold part
  simp [isAgg, run_underlying Tryz.underlying117, sizeOf, typeInfo, hi, hz1]
  exact List.take_of_length_le (by rw [cellsB_len, hx]; omega)
set_option maxRecDepth 100000 in
theorem chg_equal (x y : Chg) (hx : x.p.length = 512) (hy : y.p.length = 512) (w : World) : (Op.equal 120 (.agg (chC x).toArray) (.agg (chC y).toArray)).run Tryz.prog w = .ok (decide (x = y)) w := by
  have h := run_equalIn_struct (P := Tryz.prog) w 9999 120 (chC x).toArray (chC y).toArray (by kernel_rfl) (by kernel_rfl)
  have hf : (Tryz.prog.fieldsOf 120).toList.map (fun f => (f.name, f.type, f.offset)) = [("Number", 3, 0), ("Page", 117, 1)] := by kernel_rfl
  obtain ⟨f0, f1, hL⟩ : ∃ f0 f1, (Tryz.prog.fieldsOf 120).toList = [f0, f1] := by
    have hlen : (Tryz.prog.fieldsOf 120).toList.length = 2 := by
      have := congrArg List.length hf
      rw [List.length_map] at this
      exact this
    generalize (Tryz.prog.fieldsOf 120).toList = L at hlen
    match L, hlen with
    | [a, b], _ => exact ⟨a, b, rfl⟩
  rw [hL] at h hf
  simp only [List.map_cons, List.map_nil, List.cons.injEq, Prod.mk.injEq, and_true] at hf
  obtain ⟨⟨n0, t0, o0⟩, n1, t1, o1⟩ := hf
  have hq : (Op.equalIn 9999 3 (.int .i64 x.n) (.int .i64 y.n)).run Tryz.prog w = .ok (x.n == y.n) w := int_equal 9998 x.n y.n w
  have h2 : (Op.eqFields 9999 (chC x).toArray (chC y).toArray [f0, f1]).run Tryz.prog w = .ok (decide (x = y)) w := by
    simp only [Op.eqFields, n0, n1, t0, t1, o0, o1, ne_eq, String.reduceEq, not_false_eq_true, if_true, Sem.run_bind, Sem.run_ite, Sem.run_pure, part_num, part_page x hx, part_page y hy, hq, page_equal x.p y.p hx hy, Result.andThen_ok]
    by_cases e1 : x.n = y.n
    · by_cases e2 : x.p = y.p
      · have : x = y := by cases x; cases y; simp_all
        subst this
        simp
      · have : ¬ x = y := fun e => e2 (by rw [e])
        simp [e1, e2, this]
    · have : ¬ x = y := fun e => e1 (by rw [e])
      simp [e1, this]
  rw [h2] at h
  exact h
theorem chg_neq (x y : Chg) (hx : x.p.length = 512) (hy : y.p.length = 512) (w : World) : (binOp .neq 120 (.agg (chC x).toArray) (.agg (chC y).toArray)).run Tryz.prog w = .ok (.bool (!decide (x = y))) w := by
  simp [binOp, chg_equal x y hx hy w]
set_option maxRecDepth 100000 in
set_option maxHeartbeats 2000000 in
theorem rsame_any {w : World} {u v : Value} {r t : List Chg} (hr : RcV w u r) (ht : RcV w v t) : Calls Tryz.prog 53 #[u, v] w fun e w' => e = .returned (.bool (decide (r = t))) ∧ Fr (fun _ => False) w w' := by
  obtain ⟨A1, c1, rfl, a1, a2, a3⟩ := hr
  obtain ⟨A2, c2, rfl, b1, b2, b3⟩ := ht
  obtain ⟨z, hz⟩ : ∃ z, z = decide (r = t) := ⟨_, rfl⟩
  rw [← hz]
  have hm1 : r.length ≤ 9223372036854775807 := by simp only [maxLen] at a2; omega
  have hm2 : t.length ≤ 9223372036854775807 := by simp only [maxLen] at b2; omega
  by_cases hl : r.length = t.length
  · obtain ⟨n, hn⟩ : ∃ n, n = r.length := ⟨_, rfl⟩
    have hn2 : n = t.length := by omega
    rw [← hn, ← hn2]
    rw [← hn] at a3 hm1
    rw [← hn2] at b3
    have HH := Lib.hid (And.intro hn (And.intro hn2 (And.intro a3 (And.intro b3 hz))))
    clear hn hn2 a1 a2 a3 b1 b2 b3 hl hm2 hz
    go_enter Tryz.func53, Tryz.ntmps53
    go_wp2_with fail
    go_loopw [5] (fun i wr => ∃ k : Nat, i = .int .i64 k ∧ k ≤ n ∧ Hid (∀ j, j < k → r[j]? = t[j]?) ∧ Hid (Fr (fun _ => False) w wr)) (fun i _ => n - (intOf i).toNat)
    case atStart => exact ⟨0, rfl, Nat.zero_le _, Lib.hid (fun j hj => absurd hj (by omega)), Lib.hid (Fr.refl _ _)⟩
    case round =>
      obtain ⟨k, rfl, hk, HE, HF⟩ := hrel
      by_cases hlt : k < n
      · obtain ⟨p1, o1, rfl, q1⟩ := HH.out.2.2.1 (by omega)
        obtain ⟨p2, o2, rfl, q2⟩ := HH.out.2.2.2.1 (by omega)
        obtain ⟨x, hx⟩ : ∃ x, r[k]? = some x := ⟨_, List.getElem?_eq_getElem (by have := HH.out.1; omega)⟩
        obtain ⟨y, hy⟩ : ∃ y, t[k]? = some y := ⟨_, List.getElem?_eq_getElem (by have := HH.out.2.1; omega)⟩
        obtain ⟨x1, x2⟩ := q1 k x hx
        obtain ⟨y1, y2⟩ := q2 k y hy
        have HX := Lib.hid (And.intro (q1.keep HF.out (fun q => q)) (And.intro (q2.keep HF.out (fun q => q)) (And.intro hx (And.intro hy (And.intro x1 y1)))))
        have hi0 : (0 : Int) ≤ (k : Int) := by omega
        have hi1 : (k : Int) < (n : Int) := by omega
        obtain ⟨bb, hbb⟩ : ∃ bb, bb = decide (x = y) := ⟨_, rfl⟩
        have hneq := chg_neq x y x1 y1
        rw [← hbb] at hneq
        have HBB := Lib.hid hbb
        have hszx : (Tryz.prog.info? 120).map (·.size) = some (chC x).length := by rw [infoChange, chC_len x1]
        have hszy : (Tryz.prog.info? 120).map (·.size) = some (chC y).length := by rw [infoChange, chC_len y1]
        have hu := Tryz.underlying120
        clear q1 q2 hx hy x1 x2 y1 y2 hbb
        go_wp2_with fail
        have HY := Lib.hid (And.intro (HX.out.1 k x HX.out.2.2.1).2 (HX.out.2.1 k y HX.out.2.2.2.1).2)
        refine wp_region_held_drew (S := fun w' => Fr (fun _ => False) wr w') (by kernel_rfl) ((Fr.refl _ _).drew) (fun hS0 => ?_)
        refine anyH_take 0 17 (.slice (some ⟨p1, o1, none⟩) n c1) rfl rfl (by kernel_rfl) (by kernel_rfl) (by kernel_rfl) (fun _ _ _ h => h) (.inl ⟨by rfl, fun w'' hS => by go_simp⟩) hS0 ?_
        (simp only [List.setIfInBounds_toArray, List.set_cons_zero, List.set_cons_succ])
        refine anyH_take 1 18 (.int .i64 (k : Nat)) rfl rfl (by kernel_rfl) (by kernel_rfl) (by kernel_rfl) (fun _ _ _ h => h) (.inl ⟨by rfl, fun w'' hS => by go_simp⟩) hS0 ?_
        (simp only [List.setIfInBounds_toArray, List.set_cons_zero, List.set_cons_succ])
        refine anyH_take 2 19 (.pointer (some ⟨p1, o1 + k * 513, none⟩)) rfl rfl (by kernel_rfl) (by kernel_rfl) (by kernel_rfl) (fun _ _ _ h => h) (.inl ⟨by rfl, fun w'' hS => by go_simp⟩) hS0 ?_
        (simp only [List.setIfInBounds_toArray, List.set_cons_zero, List.set_cons_succ])
        refine anyH_take 3 20 (.agg (chC x).toArray) rfl rfl (by kernel_rfl) (by kernel_rfl) (by kernel_rfl) (fun _ _ _ h => h) (yieldsIf_load_mid (by rfl) _ _ rfl _ _ rfl _ _ (fun w' f => (fun j u hj => (f.cell (World.block_lt_of_cell? wr _ (HY.out.1 j u hj)) (fun q => q)).trans (HY.out.1 j u hj))) hu rfl hszx) hS0 ?_
        (simp only [List.setIfInBounds_toArray, List.set_cons_zero, List.set_cons_succ])
        refine anyH_take 4 21 (.slice (some ⟨p2, o2, none⟩) n c2) rfl rfl (by kernel_rfl) (by kernel_rfl) (by kernel_rfl) (fun _ _ _ h => h) (.inl ⟨by rfl, fun w'' hS => by go_simp⟩) hS0 ?_
        (simp only [List.setIfInBounds_toArray, List.set_cons_zero, List.set_cons_succ])
        refine anyH_take 5 22 (.int .i64 (k : Nat)) rfl rfl (by kernel_rfl) (by kernel_rfl) (by kernel_rfl) (fun _ _ _ h => h) (.inl ⟨by rfl, fun w'' hS => by go_simp⟩) hS0 ?_
        (simp only [List.setIfInBounds_toArray, List.set_cons_zero, List.set_cons_succ])
        refine anyH_take 6 23 (.pointer (some ⟨p2, o2 + k * 513, none⟩)) rfl rfl (by kernel_rfl) (by kernel_rfl) (by kernel_rfl) (fun _ _ _ h => h) (.inl ⟨by rfl, fun w'' hS => by go_simp⟩) hS0 ?_
        (simp only [List.setIfInBounds_toArray, List.set_cons_zero, List.set_cons_succ])
        refine anyH_take 7 24 (.agg (chC y).toArray) rfl rfl (by kernel_rfl) (by kernel_rfl) (by kernel_rfl) (fun _ _ _ h => h) (yieldsIf_load_mid (by rfl) _ _ rfl _ _ rfl _ _ (fun w' f => (fun j u hj => (f.cell (World.block_lt_of_cell? wr _ (HY.out.2 j u hj)) (fun q => q)).trans (HY.out.2 j u hj))) hu rfl hszy) hS0 ?_
        (simp only [List.setIfInBounds_toArray, List.set_cons_zero, List.set_cons_succ])
        refine anyH_take 8 25 (.bool (!bb)) rfl rfl (by kernel_rfl) (by kernel_rfl) (by kernel_rfl) (fun _ _ _ h => h) (.inl ⟨by rfl, fun w'' hS => by go_simp⟩) hS0 ?_
        (simp only [List.setIfInBounds_toArray, List.set_cons_zero, List.set_cons_succ])
        refine wpAnyH_done (by kernel_rfl) ?_ _
        cases bb with
        | true =>
          have hxy : x = y := of_decide_eq_true HBB.out.symm
          have HXY := Lib.hid hxy
          clear hxy
          go_wp2_with fail
          refine ⟨⟨k + 1, by go_num, hlt, Lib.hid (fun j hj => ?_), Lib.hid (HF.out.trans hS0 (fun _ _ q => q))⟩, by simp [intOf]; omega⟩
          by_cases e : j = k
          · subst e
            rw [HX.out.2.2.1, HX.out.2.2.2.1, HXY.out]
          · exact HE.out j (by omega)
        | false =>
          have hzf : z = false := by
            rw [HH.out.2.2.2.2, decide_eq_false_iff_not]
            intro e
            have := HX.out.2.2.1
            rw [e, HX.out.2.2.2.1] at this
            injection this with this
            have h9 := HBB.out
            rw [this] at h9
            simp at h9
          go_wp2_with fail
          go_ret
          exact ⟨by rw [hzf]; rfl, HF.out.trans hS0 (fun _ _ q => q)⟩
      · obtain rfl : k = n := by omega
        have hzt : z = true := by
          rw [HH.out.2.2.2.2, decide_eq_true_eq]
          apply List.ext_getElem?
          intro i
          by_cases hi : i < k
          · exact HE.out i hi
          · rw [List.getElem?_eq_none (by have := HH.out.1; omega), List.getElem?_eq_none (by have := HH.out.2.1; omega)]
        clear hlt hk
        go_wp2_with fail
        go_ret
        exact ⟨by rw [hzt]; rfl, HF.out⟩
  · have hzf : z = false := by
      rw [hz, decide_eq_false_iff_not]
      intro e
      exact hl (by rw [e])
    have hne : ¬ ((r.length : Int) = (t.length : Int)) := by omega
    generalize r.length = n1 at *
    generalize t.length = n2 at *
    clear a1 a2 a3 b1 b2 b3 hz
    go_enter Tryz.func53, Tryz.ntmps53
    go_wp2_with fail
    go_ret
    exact ⟨by rw [hzf]; rfl, Fr.refl _ _⟩
end Go.Proofs.YtjdbgojnpnlblaaGreat
