/- The document's disk: Copy. The copy's row is its own; the versions are shared, and never rewritten. -/
import Derived.Test.YtiobmejnamdneaaRcr
namespace Go.Proofs.Ytiobmejnamdneaa
open Go.RowKit Go.Maps

section
variable {o : Oper} {a : Act} {w : World}
theorem run_append_op_ss (s x : Operand) (hop : o.op = Op.call { callee := Callee.builtin Builtin.append, args := #[s, x], argTypes := #[39, 39] }) {v y v' : Value} {w' : World} (hs : a.eval s = v) (hx : a.eval x = y)
    (hrun : (Builtin.append_ #[39, 39] o.type #[v, y]).run Try.prog w = .ok v' w') : (execOp a.eval o).run Try.prog w = .ok (.value v') w' := by
  simp [execOp, hop, resolve, invoke, builtin, hs, hx, hrun, Result.andThen]
end
section
variable {w : World} {g : Nat} {v : Value} {vs : List Value} {r : RD}
theorem RefW.one (h : RefW w g v vs r) : ∀ u ∈ vs, u.oneCell' = true := fun u hu => by
  obtain ⟨ss, hs⟩ := h.el hu
  obtain ⟨A, c, rfl, _, _⟩ := own_slice hs
  rfl
set_option maxRecDepth 100000 in
set_option maxHeartbeats 4000000 in
theorem rcopy_any (h : RefW w g v vs r) (hn : 0 < r.V.length) (hn8 : r.V.length ≤ 8192) : Calls Try.prog 9 #[.pointer (some ⟨g, 0, none⟩)] w fun e w' =>
    ∃ g2 v2, e = .returned (.pointer (some ⟨g2, 0, none⟩)) ∧ RefW w' g2 v2 vs r ∧ w.heap.size ≤ g2 ∧ (∀ b, v2.ownBlock = some b → w.heap.size ≤ b) ∧ Fr (fun _ => False) w w' := by
  obtain ⟨RB, c, cur, hv, hb, hnc, hcm, hcs, htk⟩ := h.form hn
  obtain ⟨n, hne⟩ : ∃ n, n = r.V.length := ⟨_, rfl⟩
  obtain ⟨lf, hlf⟩ : ∃ lf, lf = r.left := ⟨_, rfl⟩
  obtain ⟨dd, hdd⟩ : ∃ dd, dd = r.dead := ⟨_, rfl⟩
  have c0 : w.cell? ⟨g, 0, none⟩ = some v := (h.blk.cell 0).trans rfl
  have c1 : w.cell? ⟨g, 1, none⟩ = some (.int .i64 lf) := (h.blk.cell 1).trans (by rw [hlf]; rfl)
  have c2 : w.cell? ⟨g, 2, none⟩ = some (.bool dd) := (h.blk.cell 2).trans (by rw [hdd]; rfl)
  rw [← hne] at hv
  rw [hv] at c0
  have hgl := h.blk.lt
  have HC : Hid (∀ w', Fr (fun _ => False) w w' → w'.cell? ⟨g, 0, none⟩ = some (.slice (some ⟨RB, 0, none⟩) n c) ∧ w'.cell? ⟨g, 1, none⟩ = some (.int .i64 lf) ∧ w'.cell? ⟨g, 2, none⟩ = some (.bool dd)) := Lib.hid fun w' f =>
    ⟨(f.cell (World.block_lt_of_cell? w _ c0) (fun q => q)).trans c0, (f.cell (World.block_lt_of_cell? w _ c1) (fun q => q)).trans c1, (f.cell (World.block_lt_of_cell? w _ c2) (fun q => q)).trans c2⟩
  have HV : Hid (∀ w', Fr (fun _ => False) w w' → ∀ (j : Nat) u, vs[j]? = some u → w'.cell? ⟨RB, j, none⟩ = some u) := Lib.hid fun w' f j u hj => by
    have := row_at hb htk hj
    exact (f.cell (World.block_lt_of_cell? w _ this) (fun q => q)).trans this
  have hlen : vs.length = n := by rw [h.len, hne]
  have HH := Lib.hid (And.intro h (And.intro hne (And.intro hlf (And.intro hdd hlen))))
  have hn8' : n ≤ 8192 := by omega
  clear h hv hb hnc hcm hcs htk c0 c1 c2 hlf hdd hlen hgl hn hn8 hne
  go_enter Try.func9, Try.ntmps9
  go_wp2_with fail
  refine wp_region_held_drew (S := fun w' => Fr (fun _ => False) w w') (by kernel_rfl) ((Fr.refl _ _).drew) (fun hS0 => ?_)
  refine anyH_take 0 4 (.pointer (some ⟨g, 0, none⟩)) rfl rfl (by kernel_rfl) (by kernel_rfl) (by kernel_rfl) (fun _ _ _ h => h) (.inl ⟨by rfl, fun w'' hS => by go_simp⟩) hS0 ?_
  (simp only [List.setIfInBounds_toArray, List.set_cons_zero, List.set_cons_succ])
  refine anyH_take 1 5 (.pointer (some ⟨g, 0, none⟩)) rfl rfl (by kernel_rfl) (by kernel_rfl) (by kernel_rfl) (fun _ _ _ h => h) (.inl ⟨by rfl, fun w'' hS => by go_simp⟩) hS0 ?_
  (simp only [List.setIfInBounds_toArray, List.set_cons_zero, List.set_cons_succ])
  refine anyH_take 2 6 (.pointer (some ⟨g, 1, none⟩)) rfl rfl (by kernel_rfl) (by kernel_rfl) (by kernel_rfl) (fun _ _ _ h => h) (.inl ⟨by rfl, fun w'' hS => by go_simp⟩) hS0 ?_
  (simp only [List.setIfInBounds_toArray, List.set_cons_zero, List.set_cons_succ])
  refine anyH_take 3 7 (.int .i64 lf) rfl rfl (by kernel_rfl) (by kernel_rfl) (by kernel_rfl) (fun _ _ _ h => h) (.inl ⟨by rfl, fun w'' hS => by have q0 := (HC.out w'' hS).2.1; go_simp⟩) hS0 ?_
  (simp only [List.setIfInBounds_toArray, List.set_cons_zero, List.set_cons_succ])
  refine anyH_take 4 8 (.pointer (some ⟨g, 0, none⟩)) rfl rfl (by kernel_rfl) (by kernel_rfl) (by kernel_rfl) (fun _ _ _ h => h) (.inl ⟨by rfl, fun w'' hS => by go_simp⟩) hS0 ?_
  (simp only [List.setIfInBounds_toArray, List.set_cons_zero, List.set_cons_succ])
  refine anyH_take 5 9 (.pointer (some ⟨g, 0, none⟩)) rfl rfl (by kernel_rfl) (by kernel_rfl) (by kernel_rfl) (fun _ _ _ h => h) (.inl ⟨by rfl, fun w'' hS => by go_simp⟩) hS0 ?_
  (simp only [List.setIfInBounds_toArray, List.set_cons_zero, List.set_cons_succ])
  refine anyH_take 6 10 (.pointer (some ⟨g, 2, none⟩)) rfl rfl (by kernel_rfl) (by kernel_rfl) (by kernel_rfl) (fun _ _ _ h => h) (.inl ⟨by rfl, fun w'' hS => by go_simp⟩) hS0 ?_
  (simp only [List.setIfInBounds_toArray, List.set_cons_zero, List.set_cons_succ])
  refine anyH_take 7 11 (.bool dd) rfl rfl (by kernel_rfl) (by kernel_rfl) (by kernel_rfl) (fun _ _ _ h => h) (.inl ⟨by rfl, fun w'' hS => by have q0 := (HC.out w'' hS).2.2; go_simp⟩) hS0 ?_
  (simp only [List.setIfInBounds_toArray, List.set_cons_zero, List.set_cons_succ])
  refine anyH_take 8 12 (.agg #[.slice none 0 0, .int .i64 lf, .bool dd]) rfl rfl (by kernel_rfl) (by kernel_rfl) (by kernel_rfl) (fun _ _ _ h => h) (.inl ⟨by rfl, fun w'' hS => by go_simp⟩) hS0 ?_
  (simp only [List.setIfInBounds_toArray, List.set_cons_zero, List.set_cons_succ])
  generalize w.drew = w0 at *
  have hb1 := Blk.new w0 41 #[.slice none 0 0, .int .i64 lf, .bool dd]
  have f1 := hS0.alloc (.cells #[.slice none 0 0, .int .i64 lf, .bool dd] 41)
  have hge := hS0.size
  refine anyH_value 9 13 (.pointer (some ⟨w0.heap.size, 0, none⟩)) (w0.alloc (.cells #[.slice none 0 0, .int .i64 lf, .bool dd] 41)) (by kernel_rfl) rfl rfl (by rfl) (by go_simp) f1 ?_
  (simp only [List.setIfInBounds_toArray, List.set_cons_zero, List.set_cons_succ])
  generalize w0.alloc (.cells #[.slice none 0 0, .int .i64 lf, .bool dd] 41) = w1 at *
  obtain ⟨g2, hg2⟩ : ∃ g2, g2 = w0.heap.size := ⟨_, rfl⟩
  rw [← hg2] at hb1 hge ⊢
  clear hS0 hg2
  have hS0 := f1
  refine anyH_take 10 3 (.pointer (some ⟨g2, 0, none⟩)) rfl rfl (by kernel_rfl) (by kernel_rfl) (by kernel_rfl) (fun _ _ _ h => h) (.inl ⟨by rfl, fun w'' hS => by go_simp⟩) hS0 ?_
  (simp only [List.setIfInBounds_toArray, List.set_cons_zero, List.set_cons_succ])
  refine wpAnyH_done (by kernel_rfl) ?_ _
  have HB1 := Lib.hid (And.intro hb1 hge)
  have HF1 := Lib.hid hS0
  clear hb1 f1 hS0 hge
  go_wp2_with fail
  refine wp_region_held_drew (S := fun w' => Fr (fun _ => False) w w') (by kernel_rfl) (HF1.out.drew) (fun hS0 => ?_)
  refine anyH_take 0 14 (.pointer (some ⟨g2, 0, none⟩)) rfl rfl (by kernel_rfl) (by kernel_rfl) (by kernel_rfl) (fun _ _ _ h => h) (.inl ⟨by rfl, fun w'' hS => by go_simp⟩) hS0 ?_
  (simp only [List.setIfInBounds_toArray, List.set_cons_zero, List.set_cons_succ])
  refine anyH_take 1 15 (.pointer (some ⟨g2, 0, none⟩)) rfl rfl (by kernel_rfl) (by kernel_rfl) (by kernel_rfl) (fun _ _ _ h => h) (.inl ⟨by rfl, fun w'' hS => by go_simp⟩) hS0 ?_
  (simp only [List.setIfInBounds_toArray, List.set_cons_zero, List.set_cons_succ])
  refine anyH_take 2 16 (.pointer (some ⟨g2, 0, none⟩)) rfl rfl (by kernel_rfl) (by kernel_rfl) (by kernel_rfl) (fun _ _ _ h => h) (.inl ⟨by rfl, fun w'' hS => by go_simp⟩) hS0 ?_
  (simp only [List.setIfInBounds_toArray, List.set_cons_zero, List.set_cons_succ])
  refine anyH_take 3 17 (.pointer (some ⟨g2, 0, none⟩)) rfl rfl (by kernel_rfl) (by kernel_rfl) (by kernel_rfl) (fun _ _ _ h => h) (.inl ⟨by rfl, fun w'' hS => by go_simp⟩) hS0 ?_
  (simp only [List.setIfInBounds_toArray, List.set_cons_zero, List.set_cons_succ])
  refine anyH_take 5 19 (.pointer (some ⟨g, 0, none⟩)) rfl rfl (by kernel_rfl) (by kernel_rfl) (by kernel_rfl) (fun _ _ _ h => h) (.inl ⟨by rfl, fun w'' hS => by go_simp⟩) hS0 ?_
  (simp only [List.setIfInBounds_toArray, List.set_cons_zero, List.set_cons_succ])
  refine anyH_take 6 20 (.pointer (some ⟨g, 0, none⟩)) rfl rfl (by kernel_rfl) (by kernel_rfl) (by kernel_rfl) (fun _ _ _ h => h) (.inl ⟨by rfl, fun w'' hS => by go_simp⟩) hS0 ?_
  (simp only [List.setIfInBounds_toArray, List.set_cons_zero, List.set_cons_succ])
  refine anyH_take 7 21 (.pointer (some ⟨g, 0, none⟩)) rfl rfl (by kernel_rfl) (by kernel_rfl) (by kernel_rfl) (fun _ _ _ h => h) (.inl ⟨by rfl, fun w'' hS => by go_simp⟩) hS0 ?_
  (simp only [List.setIfInBounds_toArray, List.set_cons_zero, List.set_cons_succ])
  refine anyH_take 8 22 (.slice (some ⟨RB, 0, none⟩) n c) rfl rfl (by kernel_rfl) (by kernel_rfl) (by kernel_rfl) (fun _ _ _ h => h) (.inl ⟨by rfl, fun w'' hS => by have q0 := (HC.out w'' hS).1; go_simp⟩) hS0 ?_
  (simp only [List.setIfInBounds_toArray, List.set_cons_zero, List.set_cons_succ])
  have hbd := HB1.out.1.keep ((Fr.refl (fun _ => False) w1).drew) (fun q => q)
  have hfd := HF1.out.drew
  generalize w1.drew = w2 at *
  have k0 : w2.cell? ⟨g2, 0, none⟩ = some (.slice none 0 0) := (hbd.cell 0).trans rfl
  refine anyH_value 4 18 (.slice none 0 0) w2 (by kernel_rfl) rfl rfl (by rfl) (by go_simp) hfd ?_
  (simp only [List.setIfInBounds_toArray, List.set_cons_zero, List.set_cons_succ])
  have hown0 : w2.ownsRow 0 38 1 (.slice none 0 0) 0 [] := ⟨by simp, .inl ⟨rfl, rfl⟩⟩
  obtain ⟨v9, w9, hrun9, hrow9, hg9, hvb9⟩ := run_append_ss 39 hown0 (HV.out w2 hfd) HH.out.2.2.2.2 HH.out.1.one c (by omega)
  have f9 : Fr (fun _ => False) w w9 := hfd.grown hg9 (fun k hk => by simp [Value.ownBlock] at hk)
  have f29 : Fr (fun _ => False) w2 w9 := (Fr.refl (fun _ => False) w2).grown hg9 (fun k hk => by simp [Value.ownBlock] at hk)
  refine anyH_value 9 23 v9 w9 (by kernel_rfl) rfl rfl (by rfl) (run_append_op_ss (.tmp 18) (.tmp 22) rfl rfl rfl hrun9) f9 ?_
  (simp only [List.setIfInBounds_toArray, List.set_cons_zero, List.set_cons_succ])
  refine anyH_take 10 24 (.pointer (some ⟨g2, 0, none⟩)) rfl rfl (by kernel_rfl) (by kernel_rfl) (by kernel_rfl) (fun _ _ _ h => h) (.inl ⟨by rfl, fun w'' hS => by go_simp⟩) f9 ?_
  (simp only [List.setIfInBounds_toArray, List.set_cons_zero, List.set_cons_succ])
  refine anyH_take 11 25 (.pointer (some ⟨g2, 0, none⟩)) rfl rfl (by kernel_rfl) (by kernel_rfl) (by kernel_rfl) (fun _ _ _ h => h) (.inl ⟨by rfl, fun w'' hS => by go_simp⟩) f9 ?_
  (simp only [List.setIfInBounds_toArray, List.set_cons_zero, List.set_cons_succ])
  have hb9 := hbd.keep f29 (fun q => q)
  obtain ⟨A9, c9, hv9, _, _⟩ := own_slice hrow9
  have f10 : Fr (fun _ => False) w (w9.setCell ⟨g2, 0, none⟩ v9) := f9.setCell (p := ⟨g2, 0, none⟩) (.inr HB1.out.2) v9
  have q0 : w9.cell? ⟨g2, 0, none⟩ = some (.slice none 0 0) := (hb9.cell 0).trans rfl
  have q1 := hb9.frozen 0
  have hne9 : v9.ownBlock ≠ some g2 := own_ne hrow9 hb9 (by decide)
  have hrow10 := own_keep hrow9 ((Fr.refl (fun b => b = g2) w9).setCell (p := ⟨g2, 0, none⟩) (.inl rfl) v9) (fun b hb e => hne9 (by have e' : b = g2 := e; rw [← e']; exact hb))
  have hb10 := hb9.set_ 0 v9
  have hw2 := hfd.size
  refine anyH_skip 12 (w9.setCell ⟨g2, 0, none⟩ v9) (by kernel_rfl) rfl rfl (by rfl) (by rw [hv9]; go_simp) f10 ?_
  refine wpAnyH_done (by kernel_rfl) ?_ _
  have HFin : Hid (RefW (w9.setCell ⟨g2, 0, none⟩ v9) g2 v9 vs r ∧ (∀ b, v9.ownBlock = some b → w.heap.size ≤ b) ∧ Fr (fun _ => False) w (w9.setCell ⟨g2, 0, none⟩ v9)) := Lib.hid ⟨⟨by
      have := hb10
      rw [HH.out.2.2.1, HH.out.2.2.2.1] at this
      exact this, by
      have := hrow10
      rw [Nat.zero_add, HH.out.2.1, List.nil_append] at this
      exact this, fun i x ss hx hs => by
      obtain ⟨h1, h2, h3⟩ := HH.out.1.els i x ss hx hs
      exact ⟨own_keep h1 f10 (fun _ _ q => q), h2, h3⟩⟩, fun b hb => by
      rcases hvb9 with e | e
      · rw [e] at hb
        simp [Value.ownBlock] at hb
      · rw [e] at hb
        injection hb with hb
        omega, f10⟩
  have hge := HB1.out.2
  clear hbd hfd k0 hown0 hrun9 hrow9 hg9 hvb9 f9 f29 hb9 f10 q0 q1 hne9 hrow10 hb10 hw2 hS0
  generalize w9.setCell ⟨g2, 0, none⟩ v9 = w10 at *
  go_wp2_with fail
  go_ret
  exact ⟨g2, v9, rfl, HFin.out.1, hge, HFin.out.2.1, HFin.out.2.2⟩
end
end Go.Proofs.Ytiobmejnamdneaa
