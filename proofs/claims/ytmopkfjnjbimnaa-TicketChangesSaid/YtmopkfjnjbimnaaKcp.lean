/- couponref13: Copy. -/
import Derived.Test.YtmopkfjnjbimnaaKmu
namespace Go.Proofs.Ytmopkfjnjbimnaa
open Go.RowKit

section
variable {ops : Array Oper} {o : Oper} {a : Act} {Q : Exit → Act → World → Prop} {α : Type} {k : Nat} {T : TypeId} {enc : α → List Value}
set_option maxRecDepth 100000 in
theorem wpList_all {rest : List Oper} {w : World} (hg : o.guard = none) (s x : Operand) (t : TypeId) (hop : o.op = Op.call { callee := Callee.builtin Builtin.append, args := #[s, x], argTypes := #[t, t] }) (hs : a.eval s = .slice none 0 0) {v : Value} {xs : List α} (hx : a.eval x = v)
    {i : TypeInfo} {z : Value} {bytes : Nat} (ht : Try.prog.underlying t = some (.slice T)) (hi : Try.prog.info? T = some i) (hz : i.zero = some z) (hsize : i.size = k) (hby : i.bytes = bytes) (hzs : z.cells.size = k) (hk0 : 0 < k)
    (hk : ∀ x, (enc x).length = k) (h1 : ∀ x, ∀ u ∈ enc x, u.oneCell' = true) (h : RwV w k enc v xs) (hb : xs.length * bytes ≤ 140737488355328)
    (hK : ∀ v' w', RwO w' w.heap.size T k enc v' xs → Fr (fun _ => False) w w' → wpList Try.prog ops Q rest (a.put o.dst v') w') : wpList Try.prog ops Q (o :: rest) a w := by
  refine wpList_plain hg fun K' hK' => ?_
  obtain ⟨v', w', hrun, ho', hf'⟩ := run_all (P := Try.prog) (ty := o.type) ht hi hz hsize hby hzs hk0 hk h1 h hb
  unfold Oper.wp
  simp [execOp, hop, resolve, invoke, builtin, hs, hx, hrun, Result.andThen]
  exact hK' _ _ (hK v' w' ho' hf')
end
/-- One row of the box is put anew. -/
theorem cp_cell {w : World} {g : Nat} {T : TypeId} {cs : Array Value} (h : Blk w g T cs) (i : Nat) {v : Value} (hv : cs[i]? = some v) : w.cell? ⟨g, i, none⟩ = some v := by rw [h.cell]; exact hv
theorem cp_keep {w0 w1 : World} {T : TypeId} {k B : Nat} {α : Type} {enc : α → List Value} {xs : List α} {u : Value} (i : Nat) (v : Value) (h : RwO w0 (B + 2) T k enc u xs) (f1 : Fr (fun _ => False) w0 w1) : RwO (w1.setCell ⟨B, i, none⟩ v) (B + 2) T k enc u xs :=
  (h.keep0 f1).keep ((Fr.refl (fun b => b = B) w1).setCell (.inl rfl) v) (fun b hb e => by have := (h.low hb).1; omega)
theorem cp_one {w w0 w1 : World} {T : TypeId} {k : Nat} {α : Type} {enc : α → List Value} {xs : List α} {cs cz : Array Value} (i : Nat) (v : Value) {cs' : Array Value} (hcs : cs.setIfInBounds i v = cs') (f0 : Fr (fun _ => False) w w0) (f1 : Fr (fun _ => False) w0 w1)
    (hb : Blk w0 w.heap.size 27 cs) (hz : Blk w0 (w.heap.size + 1) 27 cz) (ho : RwO w1 w0.heap.size T k enc v xs) :
    Blk w1 w.heap.size 27 cs ∧ Blk (w1.setCell ⟨w.heap.size, i, none⟩ v) w.heap.size 27 cs' ∧ Blk (w1.setCell ⟨w.heap.size, i, none⟩ v) (w.heap.size + 1) 27 cz ∧ RwO (w1.setCell ⟨w.heap.size, i, none⟩ v) (w.heap.size + 2) T k enc v xs ∧ Fr (fun _ => False) w (w1.setCell ⟨w.heap.size, i, none⟩ v) := by
  have g1 := hb.keep f1 (fun q => q)
  have fs : Fr (fun b => b = w.heap.size) w1 (w1.setCell ⟨w.heap.size, i, none⟩ v) := (Fr.refl (fun b => b = w.heap.size) w1).setCell (.inl rfl) v
  refine ⟨g1, hcs ▸ g1.set_ i v, (hz.keep f1 (fun q => q)).keep fs (fun q => by omega), ?_, (f0.trans f1 (fun _ _ q => q)).setCell (.inr (Nat.le_refl _)) v⟩
  have h9 := ho.keep fs (fun b hb' e => by have h5 := (ho.low hb').1; have h6 := hb.lt; omega)
  exact h9.base (by have := hz.lt; omega)
set_option maxRecDepth 100000 in
set_option maxHeartbeats 4000000 in
theorem rcopy_any {w : World} {v : Value} {t : TkD} (h : TkV w v t) (h1n : t.cps.length ≤ 100000) (h2n : t.txs.length ≤ 100000) (h3n : t.his.length ≤ 100000) :
    Calls Try.prog 10 #[v] w fun e w' => ∃ v', e = .returned v' ∧ TkO w' w.heap.size v' t ∧ Fr (fun _ => False) w w' := by
  obtain ⟨sc, sx, se, rfl, h1, h2, h3⟩ := h
  obtain ⟨i1, hi1, hz1, hs1, hb1⟩ := info_parts infoCp
  obtain ⟨i2, hi2, hz2, hs2, hb2⟩ := info_parts infoTx
  obtain ⟨i3, hi3, hz3, hs3, hb3⟩ := info_parts infoEv
  obtain ⟨W0, hW0⟩ : ∃ W0, W0 = (w.alloc (.cells (tkA t sc sx se) 27)).alloc (.cells #[.int .u64 0, .string ⟨#[]⟩, .int .i64 0, .slice none 0 0, .slice none 0 0, .int .u64 0, .int .u64 0, .int .u64 0, .int .i64 0, .int .i64 0, .slice none 0 0] 27) := ⟨_, rfl⟩
  have fa : Fr (fun _ => False) w (w.alloc (.cells (tkA t sc sx se) 27)) := (Fr.refl _ w).alloc _
  have f0 : Fr (fun _ => False) w W0 := by rw [hW0]; exact fa.alloc _
  have hb0 : Blk W0 w.heap.size 27 (tkA t sc sx se) := by
    rw [hW0]
    exact (Blk.new w _ _).keep ((Fr.refl (fun _ => False) _).alloc _) (fun q => q)
  have hb1 : Blk W0 (w.heap.size + 1) 27 #[.int .u64 0, .string ⟨#[]⟩, .int .i64 0, .slice none 0 0, .slice none 0 0, .int .u64 0, .int .u64 0, .int .u64 0, .int .i64 0, .int .i64 0, .slice none 0 0] := by
    rw [hW0]
    have := Blk.new (w.alloc (.cells (tkA t sc sx se) 27)) 27 #[.int .u64 0, .string ⟨#[]⟩, .int .i64 0, .slice none 0 0, .slice none 0 0, .int .u64 0, .int .u64 0, .int .u64 0, .int .i64 0, .int .i64 0, .slice none 0 0]
    rwa [show (w.alloc (.cells (tkA t sc sx se) 27)).heap.size = w.heap.size + 1 from Array.size_push _] at this
  have HW0 := Lib.hid hW0
  have HB := Lib.hid (And.intro f0 (And.intro hb0 hb1))
  have HC := Lib.hid (And.intro h1 (And.intro h2 h3))
  obtain ⟨A1, n1, c1, hsc⟩ : ∃ A n c, sc = .slice A n c := by obtain ⟨A, c, e, _⟩ := h1.slice; exact ⟨A, _, c, e⟩
  obtain ⟨A2, n2, c2, hsx⟩ : ∃ A n c, sx = .slice A n c := by obtain ⟨A, c, e, _⟩ := h2.slice; exact ⟨A, _, c, e⟩
  obtain ⟨A3, n3, c3, hse⟩ : ∃ A n c, se = .slice A n c := by obtain ⟨A, c, e, _⟩ := h3.slice; exact ⟨A, _, c, e⟩
  have HN := Lib.hid (And.intro h1n (And.intro h2n h3n))
  clear h1 h2 h3 fa f0 hb0 hb1 hW0 h1n h2n h3n
  subst hsc hsx hse
  go_enter Try.func10, Try.ntmps10
  go_wp2_with (first
    | (at_builtin; refine wpList_all rfl (.const (.slice none 0 0)) (.tmp 4) 23 rfl rfl rfl Try.underlying23 hi1 hz1 hs1 hb1 rfl (by omega) cpC_len cpC_one (by rw [← HW0.out]; exact HC.out.1.keep0 HB.out.1) (by have := HN.out; omega) ?_; rw [← HW0.out]; intro v1 w1 ho1 f1; have HB1 := Lib.hid (cp_one 3 v1 rfl HB.out.1 f1 HB.out.2.1 HB.out.2.2 ho1); obtain ⟨A4, n4, c4, hv4⟩ := own_form ho1; subst hv4; have hc1 := cp_cell HB1.out.1 3 rfl; have hc2 := cp_cell HB1.out.1 4 rfl; have hf1 := blk_frozen HB1.out.1 3; clear ho1 f1)
    | (at_builtin; refine wpList_all rfl (.const (.slice none 0 0)) (.tmp 8) 24 rfl rfl rfl Try.underlying24 hi2 hz2 hs2 hb2 rfl (by omega) txC_len txC_one (HC.out.2.1.keep0 HB1.out.2.2.2.2) (by have := HN.out; omega) ?_; intro v2 w2 ho2 f2; have HB2 := Lib.hid (cp_one 4 v2 rfl HB1.out.2.2.2.2 f2 HB1.out.2.1 HB1.out.2.2.1 ho2); have HD2 := Lib.hid (cp_keep 4 v2 HB1.out.2.2.2.1 f2); obtain ⟨A5, n5, c5, hv5⟩ := own_form ho2; subst hv5; have hd1 := cp_cell HB2.out.1 4 rfl; have hd2 := cp_cell HB2.out.1 10 rfl; have hg1 := blk_frozen HB2.out.1 4; clear ho2 f2 hc1 hc2 hf1)
    | (at_builtin; refine wpList_all rfl (.const (.slice none 0 0)) (.tmp 12) 25 rfl rfl rfl Try.underlying25 hi3 hz3 hs3 hb3 rfl (by omega) evC_len evC_one (HC.out.2.2.keep0 HB2.out.2.2.2.2) (by have := HN.out; omega) ?_; intro v3 w3 ho3 f3; have HB3 := Lib.hid (cp_one 10 v3 rfl HB2.out.2.2.2.2 f3 HB2.out.2.1 HB2.out.2.2.1 ho3); have HD3 := Lib.hid (And.intro (cp_keep 10 v3 HD2.out f3) (cp_keep 10 v3 HB2.out.2.2.2.1 f3)); obtain ⟨A6, n6, c6, hv6⟩ := own_form ho3; subst hv6; have he1 := cp_cell HB3.out.1 10 rfl; have hh1 := blk_frozen HB3.out.1 10; clear ho3 f3 hd1 hd2 hg1)
    | (refine wpList_load_mid rfl 27 (.tmp 1) rfl w.heap.size 0 rfl (tkA t (.slice A4 n4 c4) (.slice A5 n5 c5) (.slice A6 n6 c6)).toList _ (blk_range HB3.out.2.1) Try.underlying27 rfl infoTk ?_)
    | (refine wpList_store_mid rfl 27 (.tmp 2) (.tmp 15) rfl (w.heap.size + 1) 0 (tkA t (.slice A4 n4 c4) (.slice A5 n5 c5) (.slice A6 n6 c6)) rfl rfl (blk_there HB3.out.2.2.1 (Nat.le_refl 11)) (infoTk' _ _ _ _) (tkA_one _ _ _ _ _ _ _ _ _ _) ?_))
  refine bodyPost_ret (results_cell_row rfl _ _ (w.heap.size + 1) 27 (tkA t (.slice A4 n4 c4) (.slice A5 n5 c5) (.slice A6 n6 c6)) (0, 0) _ rfl (blk_row HB3.out.2.2.1 rfl) Try.underlying27 rfl (infoTk' _ _ _ _)) rfl ?_
  have fz := fr_cells (F := fun b => b = w.heap.size + 1) (b := w.heap.size + 1) (.inl rfl) (tkA t (.slice A4 n4 c4) (.slice A5 n5 c5) (.slice A6 n6 c6)).toList 0 _ (Fr.refl (fun b => b = w.heap.size + 1) (w3.setCell ⟨w.heap.size, 10, none⟩ (.slice A6 n6 c6)))
  have o1 := HD3.out.2.keep fz (fun b hb e => by have h5 := (HD3.out.2.low hb).1; have e' : b = w.heap.size + 1 := e; omega)
  have o2 := HD3.out.1.keep fz (fun b hb e => by have h5 := (HD3.out.1.low hb).1; have e' : b = w.heap.size + 1 := e; omega)
  have o3 := HB3.out.2.2.2.1.keep fz (fun b hb e => by have h5 := (HB3.out.2.2.2.1.low hb).1; have e' : b = w.heap.size + 1 := e; omega)
  exact ⟨_, rfl, ⟨_, _, _, rfl, o2.base (Nat.le_add_right _ 2), o1.base (Nat.le_add_right _ 2), o3.base (Nat.le_add_right _ 2)⟩, fr_cells (.inr (Nat.le_succ _)) (tkA t (.slice A4 n4 c4) (.slice A5 n5 c5) (.slice A6 n6 c6)).toList 0 _ HB3.out.2.2.2.2⟩
end Go.Proofs.Ytmopkfjnjbimnaa
