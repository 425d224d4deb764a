/- The heap's Push of the landed code. -/
import Derived.Test.YtfonchobolhkoaaDoorFll
namespace Go.Proofs.YtfonchobolhkoaaDoor
open Go.RowKit

theorem infoLs : (Tryd.prog.info? 58).map (fun i => (i.zero, i.size, i.bytes)) = some (some (.agg #[.int .i64 0, .int .u64 0]), 2, 16) := by kernel_rfl
section
variable {P : Program} {ops : Array Oper} {Q : Exit → Act → World → Prop} {md : Region.Mode} {S : World → Prop}
theorem anyH_alt (i j : Nat) {fuel : Nat} {listed : Array Bool} {T : Array Value} {ds : List Deferred} {w : World} (hr : Region.ready md ops listed = [i, j])
    (hi : wpOp P ops Q i (fun a' w' => S w' ∧ wpAnyH P md ops Q S fuel (listed.setIfInBounds i true) a' w') { tmps := T, defers := ds } w)
    (hj : wpOp P ops Q j (fun a' w' => S w' ∧ wpAnyH P md ops Q S fuel (listed.setIfInBounds j true) a' w') { tmps := T, defers := ds } w) : wpAnyH P md ops Q S (fuel + 1) listed { tmps := T, defers := ds } w := by
  refine wpAnyH_all hr (by simp) fun q hq => ?_
  simp only [List.mem_cons, List.not_mem_nil, or_false] at hq
  rcases hq with rfl | rfl
  · exact hi
  · exact hj
end
theorem slice_of_ls (x : Nat × Nat) (w : World) : (Instr.buildSlice 51 1 #[(0, .agg #[lsA x, lsB x])]).run Tryd.prog w = .ok (.slice (some ⟨w.heap.size, 0, none⟩) 1 1) (w.alloc (.cells #[lsA x, lsB x] 58)) := by
  obtain ⟨i0, hi, hz0, hz1, hz2⟩ := info_parts infoLs
  refine run_buildSlice w 51 58 1 _ _ i0 _ Tryd.underlying51 hi hz0 (by rw [hz1]; omega) (by rw [hz1]; omega) ?_
  rw [hz1]
  have hb : ((Array.range (1 * 2)).map ((Value.agg #[.int .i64 0, .int .u64 0]).cells[· % (Value.agg #[.int .i64 0, .int .u64 0]).cells.size]!)) = #[Value.int .i64 0, Value.int .u64 0] := by
    apply Array.ext
    · simp
    · intro i h1 h2
      simp at h1
      have h3 : i = 0 ∨ i = 1 := by omega
      rcases h3 with rfl | rfl <;> simp [Value.cells]
  rw [hb]
  simp [Instr.fill, Value.cells]
theorem run_build_ls {w : World} {o : Oper} {a : Act} {x : Nat × Nat} (s : Operand) (hop : o.op = Op.buildSlice 51 1 #[(0, s)]) (hs : a.eval s = .agg #[lsA x, lsB x]) :
    (execOp a.eval o).run Tryd.prog w = .ok (.value (.slice (some ⟨w.heap.size, 0, none⟩) 1 1)) (w.alloc (.cells #[lsA x, lsB x] 58)) := by
  have hr := slice_of_ls x w
  simp [execOp, hop, hs, hr, Result.andThen]
theorem tassert_ls (v : Value) (w : World) : Sem.run Tryd.prog (Instr.typeAssert (.iface 58 v) 20 58 false) w = .ok v w := by kernel_rfl
theorem append_ls {w : World} {B g : Nat} {v : Value} {l : List (Nat × Nat)} (h : RowP 58 lsA lsB w B v l) {x : Nat × Nat} (hs : w.cell? ⟨g, 0, none⟩ = some (lsA x) ∧ w.cell? ⟨g, 1, none⟩ = some (lsB x)) (hl : l.length < 100000) (hB : B ≤ w.heap.size) :
    ∃ v' w', (Builtin.append_ #[51, 51] 51 #[v, .slice (some ⟨g, 0, none⟩) 1 1]).run Tryd.prog w = .ok v' w' ∧ RowP 58 lsA lsB w' B v' (l ++ [x]) ∧ w.grownBy w' v.ownBlock ∧ (v'.ownBlock = v.ownBlock ∨ v'.ownBlock = some w.heap.size) := by
  obtain ⟨i0, hi, hz0, hz1, hz2⟩ := info_parts infoLs
  obtain ⟨v', w', hrun, g2, g3, _, g5⟩ := run_append_own_at (P := Tryd.prog) w B 51 51 58 i0 (.agg #[.int .i64 0, .int .u64 0]) 2 16 Tryd.underlying51 hi hz0 hz1 hz2 rfl (by omega) v l.length (prs lsA lsB l) h ⟨g, 0, none⟩ 1 1 [lsA x, lsB x] rfl (fun j u hj => by
    match j, hj with
    | 0, hj => simp at hj; subst hj; rw [add_plain]; exact hs.1
    | 1, hj => simp at hj; subst hj; rw [add_plain]; exact hs.2) (fun u hu => by
      simp only [List.mem_cons, List.not_mem_nil, or_false] at hu
      rcases hu with rfl | rfl <;> rfl) (by simp only [maxLen]; omega) (by omega) hB
  refine ⟨v', w', hrun, ?_, g3, g5⟩
  unfold RowP
  rw [List.length_append, prs_app]
  exact g2
theorem run_append_ls_op {w w' : World} {o : Oper} {a : Act} {v y v' : Value} (s x : Operand) (hop : o.op = Op.call { callee := Callee.builtin Builtin.append, args := #[s, x], argTypes := #[51, 51] }) (hs : a.eval s = v) (hx : a.eval x = y)
    (hrun : (Builtin.append_ #[51, 51] o.type #[v, y]).run Tryd.prog w = .ok v' w') : (execOp a.eval o).run Tryd.prog w = .ok (.value v') w' := by
  simp [execOp, hop, resolve, invoke, builtin, hs, hx, hrun, Result.andThen]
theorem run_store_ls {w : World} {o : Oper} {a : Act} {p : Nat} {v' : Value} (q x : Operand) (hop : o.op = Op.store 51 q x) (hq : a.eval q = .pointer (some ⟨p, 0, none⟩)) (hx : a.eval x = v') (hc : (w.cell? ⟨p, 0, none⟩).isSome = true) (hf : w.frozen? ⟨p, 0, none⟩ = false) (hv : ∃ A m c, v' = .slice A m c) :
    (execOp a.eval o).run Tryd.prog w = .ok .skip (w.setCell ⟨p, 0, none⟩ v') := by
  obtain ⟨A, m, c, rfl⟩ := hv
  obtain ⟨u, hu⟩ := Option.isSome_iff_exists.1 hc
  have hun := Tryd.underlying51
  simp only [execOp, hop, hq, hx]
  simp [go_sem, hu, hf, hun]
theorem gb_cell {w w' : World} {row : Option Nat} (h : w.grownBy w' row) {p : Addr} (hp : p.block < w.heap.size) (hn : row ≠ some p.block) : w'.cell? p = w.cell? p :=
  (Fr.grown (F := fun k => row = some k) (Fr.refl _ w) h (fun k hk => .inl hk)).cell hp hn
theorem gb_frozen {w w' : World} {row : Option Nat} (h : w.grownBy w' row) {p : Addr} (hp : p.block < w.heap.size) (hn : row ≠ some p.block) : w'.frozen? p = w.frozen? p :=
  (Fr.grown (F := fun k => row = some k) (Fr.refl _ w) h (fun k hk => .inl hk)).frozen hp hn
theorem run_load_ls {w : World} {o : Oper} {a : Act} {p n c : Nat} {A : Option Addr} {v : Value} (q : Operand) (hop : o.op = Op.load 51 q) (hq : a.eval q = .pointer (some ⟨p, 0, none⟩)) (hc : w.cell? ⟨p, 0, none⟩ = some v) (hv : v = .slice A n c) :
    (execOp a.eval o).run Tryd.prog w = .ok (.value v) w := by
  subst hv
  have hun := Tryd.underlying51
  simp only [execOp, hop, hq]
  simp [go_sem, hc, hun, loadVar]
/-- A heap of losses in memory: its variable, the block p; its row, in blocks behind p; what lies below p is as it was. -/
def AtH (w0 : World) (p : Nat) (W : World) (l : List (Nat × Nat)) : Prop :=
  l.length ≤ 100000 ∧ ∃ v, W.cell? ⟨p, 0, none⟩ = some v ∧ W.frozen? ⟨p, 0, none⟩ = false ∧ RowP 58 lsA lsB W (p + 1) v l ∧ Fr (fun k => p ≤ k) w0 W
theorem push_end {w0 w w1 w2 : World} {p : Nat} {v v' : Value} {l : List (Nat × Nat)} {x : Nat × Nat} (hB : RowP 58 lsA lsB w (p + 1) v l ∧ Fr (fun k => p ≤ k) w0 w ∧ l.length < 100000 ∧ p < w.heap.size) (hf : Fr (fun _ => False) w w1)
    (hg : RowP 58 lsA lsB w2 (p + 1) v' (l ++ [x]) ∧ w1.grownBy w2 v.ownBlock ∧ (v'.ownBlock = v.ownBlock ∨ v'.ownBlock = some w1.heap.size) ∧ w2.cell? ⟨p, 0, none⟩ = some v ∧ w2.frozen? ⟨p, 0, none⟩ = false) :
    Ending.returned (.tuple #[]) = .returned (.tuple #[]) ∧ AtH w0 p (w2.setCell ⟨p, 0, none⟩ v') (l ++ [x]) := by
  obtain ⟨g1, g2, g3, g4, g5⟩ := hg
  refine ⟨rfl, by rw [List.length_append]; simp; omega, v', World.cell?_setCell_same' _ _ _ (by rw [g4]; rfl), by simpa [go_sem] using g5, ?_, ?_⟩
  · exact g1.keep (F := fun k => k = p) ((Fr.refl (fun k => k = p) w2).setCell (p := ⟨p, 0, none⟩) (.inl rfl) v') (fun k hk e => by have := g1.low hk; omega)
  · have f1 : Fr (fun k => p ≤ k) w0 w2 := (hB.2.1.trans hf (fun _ _ q => q.elim)).grown g2 (fun k hk => .inl (by have := hB.1.low hk; omega))
    exact f1.setCell (p := ⟨p, 0, none⟩) (.inl (Nat.le_refl p)) v'
set_option maxRecDepth 100000 in
set_option maxHeartbeats 4000000 in
theorem push_any {w0 w : World} {p : Nat} {l : List (Nat × Nat)} (x : Nat × Nat) (ha : AtH w0 p w l) (hl : l.length < 100000) :
    Calls Tryd.prog 109 #[.pointer (some ⟨p, 0, none⟩), .iface 58 (.agg #[lsA x, lsB x])] w fun e w' => e = .returned (.tuple #[]) ∧ AtH w0 p w' (l ++ [x]) := by
  obtain ⟨_, v, hpc, hpf, hrow, hfr⟩ := ha
  have hpl : p < w.heap.size := World.block_lt_of_cell? w _ hpc
  have hB : p + 1 ≤ w.heap.size := hpl
  have hne : v.ownBlock ≠ some p := fun q => by have := hrow.low q; omega
  have HB := Lib.hid (And.intro hrow (And.intro hfr (And.intro hl hpl)))
  have HL := Lib.hid hl
  obtain ⟨A, c, hv, _⟩ := hrow.slice
  obtain ⟨n, hn⟩ : ∃ n, n = l.length := ⟨_, rfl⟩
  rw [← hn] at hv
  have HP := Lib.hid (And.intro hpc (And.intro hpf (And.intro hpl (And.intro hB (And.intro hne hrow)))))
  have HV := Lib.hid hv
  clear hrow hfr hpl hB hne hl hn hpc hpf hv
  go_enter Tryd.func109, Tryd.ntmps109
  go_wp2_with fail
  refine wp_region_held_drew (S := fun _ => True) (by kernel_rfl) (trivial) (fun hS0 => ?_)
  refine anyH_take 0 4 (.pointer (some ⟨p, 0, none⟩)) rfl rfl (by kernel_rfl) (by kernel_rfl) (by kernel_rfl) (fun _ _ _ h => h) (.inl ⟨by rfl, fun w'' hS => by go_simp⟩) hS0 ?_
  (simp only [List.setIfInBounds_toArray, List.set_cons_zero, List.set_cons_succ])
  refine anyH_take 1 5 (.pointer (some ⟨p, 0, none⟩)) rfl rfl (by kernel_rfl) (by kernel_rfl) (by kernel_rfl) (fun _ _ _ h => h) (.inl ⟨by rfl, fun w'' hS => by go_simp⟩) hS0 ?_
  (simp only [List.setIfInBounds_toArray, List.set_cons_zero, List.set_cons_succ])
  refine anyH_take 2 6 (.pointer (some ⟨p, 0, none⟩)) rfl rfl (by kernel_rfl) (by kernel_rfl) (by kernel_rfl) (fun _ _ _ h => h) (.inl ⟨by rfl, fun w'' hS => by go_simp⟩) hS0 ?_
  (simp only [List.setIfInBounds_toArray, List.set_cons_zero, List.set_cons_succ])
  refine anyH_take 4 8 (.iface 58 (.agg #[lsA x, lsB x])) rfl rfl (by kernel_rfl) (by kernel_rfl) (by kernel_rfl) (fun _ _ _ h => h) (.inl ⟨by rfl, fun w'' hS => by go_simp⟩) hS0 ?_
  (simp only [List.setIfInBounds_toArray, List.set_cons_zero, List.set_cons_succ])
  refine anyH_take 5 9 (.agg #[lsA x, lsB x]) rfl rfl (by kernel_rfl) (by kernel_rfl) (by kernel_rfl) (fun _ _ _ h => h) (.inl ⟨by rfl, fun w'' hS => by have q0 := tassert_ls (.agg #[lsA x, lsB x]) w''; go_simp⟩) hS0 ?_
  (simp only [List.setIfInBounds_toArray, List.set_cons_zero, List.set_cons_succ])
  have hpc := HP.out.1
  have hpf := HP.out.2.1
  obtain ⟨w1, hw1⟩ : ∃ w1, w1 = w.drew.alloc (.cells #[lsA x, lsB x] 58) := ⟨_, rfl⟩
  have hF1 : Fr (fun _ => False) w w1 := by rw [hw1]; exact (Fr.refl _ w).drew.alloc _
  have HF1 := Lib.hid hF1
  have hsl := fun (o : Oper) (a : Act) (s : Operand) (h1 : o.op = Op.buildSlice 51 1 #[(0, s)]) (h2 : a.eval s = .agg #[lsA x, lsB x]) => run_build_ls (w := w.drew) s h1 h2
  rw [← hw1] at hsl
  obtain ⟨G, hG⟩ : ∃ G, G = w.drew.heap.size := ⟨_, rfl⟩
  rw [← hG] at hsl
  have hsp : w1.cell? ⟨G, 0, none⟩ = some (lsA x) ∧ w1.cell? ⟨G, 1, none⟩ = some (lsB x) := by
    rw [hw1, hG]
    have hb := Blk.new w.drew 58 #[lsA x, lsB x]
    exact ⟨hb.cell 0, hb.cell 1⟩
  have hrow1 := HP.out.2.2.2.2.2.keep0 hF1
  have hpl1 : p < w1.heap.size := Nat.lt_of_lt_of_le HP.out.2.2.1 hF1.size
  have hB1 : p + 1 ≤ w1.heap.size := hpl1
  have hpne := HP.out.2.2.2.2.1
  have hpc1 : w1.cell? ⟨p, 0, none⟩ = some v := (hF1.cell (p := ⟨p, 0, none⟩) HP.out.2.2.1 (fun q => q)).trans hpc
  have hpf1 : w1.frozen? ⟨p, 0, none⟩ = false := (hF1.frozen (p := ⟨p, 0, none⟩) HP.out.2.2.1 (fun q => q)).trans hpf
  have hld := HV.out
  refine anyH_alt 3 6 (by kernel_rfl) ?_ ?_
  · refine wpOp_value 7 v rfl rfl (by rfl) (run_load_ls (.tmp 6) rfl rfl hpc hld) ⟨trivial, ?_⟩
    (simp only [List.setIfInBounds_toArray, List.set_cons_zero, List.set_cons_succ])
    refine anyH_value 6 10 (.slice (some ⟨G, 0, none⟩) 1 1) w1 (by kernel_rfl) rfl rfl (by rfl) (hsl _ _ (.tmp 9) rfl rfl) trivial ?_
    (simp only [List.setIfInBounds_toArray, List.set_cons_zero, List.set_cons_succ])
    have hS1 : (fun _ : World => True) w1 := trivial
    obtain ⟨v', w2, hap, hro, hgr, hat⟩ := append_ls hrow1 (x := x) hsp HL.out hB1
    refine anyH_value 7 11 v' w2 (by kernel_rfl) rfl rfl (by rfl) (run_append_ls_op (.tmp 7) (.tmp 10) rfl rfl rfl hap) trivial ?_
    (simp only [List.setIfInBounds_toArray, List.set_cons_zero, List.set_cons_succ])
    have hp2 : w2.cell? ⟨p, 0, none⟩ = some v := (gb_cell hgr (p := ⟨p, 0, none⟩) hpl1 hpne).trans hpc1
    have hpf2 : w2.frozen? ⟨p, 0, none⟩ = false := (gb_frozen hgr (p := ⟨p, 0, none⟩) hpl1 hpne).trans hpf1
    refine anyH_value 8 12 (.pointer (some ⟨p, 0, none⟩)) w2 (by kernel_rfl) rfl rfl (by rfl) (by go_simp) trivial ?_
    (simp only [List.setIfInBounds_toArray, List.set_cons_zero, List.set_cons_succ])
    refine anyH_skip 9 (w2.setCell ⟨p, 0, none⟩ v') (by kernel_rfl) rfl rfl (by rfl) (run_store_ls (.tmp 12) (.tmp 11) rfl rfl rfl (by rw [hp2]; rfl) hpf2 (own_form hro)) trivial ?_
    refine wpAnyH_done (by kernel_rfl) ?_ _
    have HG := Lib.hid (And.intro hro (And.intro hgr (And.intro hat (And.intro hp2 hpf2))))
    clear hro hgr hat hp2 hpf2 hap hrow1 hsp hB1
    go_wp2_with fail
    go_end0
    exact push_end HB.out HF1.out HG.out
  · refine wpOp_value 10 (.slice (some ⟨G, 0, none⟩) 1 1) rfl rfl (by rfl) (hsl _ _ (.tmp 9) rfl rfl) ⟨trivial, ?_⟩
    (simp only [List.setIfInBounds_toArray, List.set_cons_zero, List.set_cons_succ])
    refine anyH_value 3 7 v w1 (by kernel_rfl) rfl rfl (by rfl) (run_load_ls (.tmp 6) rfl rfl hpc1 hld) trivial ?_
    (simp only [List.setIfInBounds_toArray, List.set_cons_zero, List.set_cons_succ])
    have hS1 : (fun _ : World => True) w1 := trivial
    obtain ⟨v', w2, hap, hro, hgr, hat⟩ := append_ls hrow1 (x := x) hsp HL.out hB1
    refine anyH_value 7 11 v' w2 (by kernel_rfl) rfl rfl (by rfl) (run_append_ls_op (.tmp 7) (.tmp 10) rfl rfl rfl hap) trivial ?_
    (simp only [List.setIfInBounds_toArray, List.set_cons_zero, List.set_cons_succ])
    have hp2 : w2.cell? ⟨p, 0, none⟩ = some v := (gb_cell hgr (p := ⟨p, 0, none⟩) hpl1 hpne).trans hpc1
    have hpf2 : w2.frozen? ⟨p, 0, none⟩ = false := (gb_frozen hgr (p := ⟨p, 0, none⟩) hpl1 hpne).trans hpf1
    refine anyH_value 8 12 (.pointer (some ⟨p, 0, none⟩)) w2 (by kernel_rfl) rfl rfl (by rfl) (by go_simp) trivial ?_
    (simp only [List.setIfInBounds_toArray, List.set_cons_zero, List.set_cons_succ])
    refine anyH_skip 9 (w2.setCell ⟨p, 0, none⟩ v') (by kernel_rfl) rfl rfl (by rfl) (run_store_ls (.tmp 12) (.tmp 11) rfl rfl rfl (by rw [hp2]; rfl) hpf2 (own_form hro)) trivial ?_
    refine wpAnyH_done (by kernel_rfl) ?_ _
    have HG := Lib.hid (And.intro hro (And.intro hgr (And.intro hat (And.intro hp2 hpf2))))
    clear hro hgr hat hp2 hpf2 hap hrow1 hsp hB1
    go_wp2_with fail
    go_end0
    exact push_end HB.out HF1.out HG.out
end Go.Proofs.YtfonchobolhkoaaDoor
