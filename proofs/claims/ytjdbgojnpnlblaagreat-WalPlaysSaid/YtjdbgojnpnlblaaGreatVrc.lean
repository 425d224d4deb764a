/- couponlaw04.record. -/
import Derived.Test.YtjdbgojnpnlblaaGreatVpg
namespace Go.Proofs.YtjdbgojnpnlblaaGreat
open Go.RowKit

structure Leaf where
  n : Int
  b : List UInt8
def Leaf.chg (x : Leaf) : Chg := ⟨x.n, pageOf x.b⟩
def LvsAt (w : World) (b off : Nat) (xs : List Leaf) : Prop := ∀ (i : Nat) (x : Leaf), xs[i]? = some x → w.cell? ⟨b, off + i * 2, none⟩ = some (.int .i64 x.n) ∧ ∃ A c, w.cell? ⟨b, off + i * 2 + 1, none⟩ = some (.slice A x.b.length c) ∧ Rd w A x.b.length x.b ∧ x.b.length ≤ 9223372036854775807
theorem LvsAt.new {w w' : World} {b off : Nat} {xs : List Leaf} (h : LvsAt w b off xs) (f : Fr (fun _ => False) w w') : LvsAt w' b off xs := fun i x hx => by
  obtain ⟨h1, A, c, h2, h3, h4⟩ := h i x hx
  exact ⟨(f.cell (World.block_lt_of_cell? w _ h1) (fun q => q)).trans h1, A, c, (f.cell (World.block_lt_of_cell? w _ h2) (fun q => q)).trans h2, h3.keep f (fun _ _ q => q), h4⟩
def LvV (w : World) (v : Value) (xs : List Leaf) : Prop := ∃ A cap, v = .slice A xs.length cap ∧ xs.length ≤ cap ∧ cap ≤ maxLen ∧ (0 < xs.length → ∃ b off, A = some ⟨b, off, none⟩ ∧ LvsAt w b off xs)
theorem recC_app (r t : List Chg) : recC (r ++ t) = recC r ++ recC t := by simp [recC]
theorem rec_flat {w : World} {b : Nat} : ∀ {r : List Chg} {off : Nat}, (∀ x ∈ r, x.p.length = 512) → w.rangeAt b off (recC r) → RecAt w b off r
  | [], off, _, _ => fun i x hi => by simp at hi
  | y :: r, off, hs, h => fun i x hi => by
    have hy := hs y (by simp)
    have hyl := chC_len hy
    have e : recC (y :: r) = chC y ++ recC r := by simp [recC]
    rw [e] at h
    cases i with
    | zero =>
      injection hi with hi
      subst hi
      refine ⟨hy, fun j v hv => ?_⟩
      rw [Nat.zero_mul, Nat.add_zero]
      exact h j v (by rw [List.getElem?_append_left (List.getElem?_eq_some_iff.1 hv).1]; exact hv)
    | succ i =>
      have ih := rec_flat (w := w) (b := b) (r := r) (off := off + 513) (fun x hx => hs x (by simp [hx])) (fun j v hv => by
        have := h (513 + j) v (by rw [List.getElem?_append_right (by omega), hyl, Nat.add_sub_cancel_left]; exact hv)
        rwa [← Nat.add_assoc] at this)
      have := ih i x hi
      rwa [show off + 513 + i * 513 = off + (i + 1) * 513 by omega] at this
theorem rcV_of_own {w : World} {base : Nat} {v : Value} {r : List Chg} (h : w.ownsRow base 120 513 v r.length (recC r)) (hall : ∀ x ∈ r, x.p.length = 512) : RcV w v r := by
  obtain ⟨A, cap, rfl, h1, h2⟩ := own_slice h
  refine ⟨A, cap, rfl, h1, h2, fun hn => ?_⟩
  rcases h.2 with ⟨_, h0⟩ | ⟨b, c, cur, hv, _⟩
  · omega
  · have hA : A = some ⟨b, 0, none⟩ := by injection hv
    subst hA
    refine ⟨b, 0, rfl, rec_flat hall (fun j u hj => ?_)⟩
    have := h.cells (g := b) rfl j u hj
    rw [Addr.add_mid] at this
    exact this
set_option maxRecDepth 100000 in
theorem slice_of_chg (x : Chg) (hx : x.p.length = 512) (w : World) : (Instr.buildSlice 60 1 #[(0, .agg (chC x).toArray)]).run Tryz.prog w = .ok (.slice (some ⟨w.heap.size, 0, none⟩) 1 1) (w.alloc (.cells (chC x).toArray 120)) := by
  obtain ⟨i0, hi, hz0, hz1, hz2⟩ := info_parts infoChg
  refine run_buildSlice w 60 120 1 _ _ i0 _ Tryz.underlying60 hi hz0 (by rw [hz1]; omega) (by rw [hz1]; omega) ?_
  rw [hz1]
  have hb : ∃ L : List Value, ((Array.range (1 * 513)).map ((Value.agg (chC zChg).toArray).cells[· % (Value.agg (chC zChg).toArray).cells.size]!)) = L.toArray ∧ L.length = 513 := ⟨_, (Array.toArray_toList (xs := _)).symm, by simp⟩
  obtain ⟨L, hL, hLl⟩ := hb
  rw [hL]
  exact fill_one (cs := chC x) (base := L) (by rw [chC_len hx, hLl]) 513 (chC_len hx)
section
variable {o : Oper} {a : Act} {w : World}
theorem run_build_chg_op (x y : Operand) (hop : o.op = .build 120 #[(0, x), (1, y)]) (c : Chg) (hl : c.p.length = 512) (hx : a.eval x = .int .i64 c.n) (hy : a.eval y = av c.p) :
    (execOp a.eval o).run Tryz.prog w = .ok (.value (.agg (chC c).toArray)) w := by
  have hr := build_chg c hl w
  unfold execOp
  simp only [hop, hx, hy]
  simp [hr, hx, hy, Result.andThen]
theorem run_slice_chg_op (x : Operand) (hop : o.op = .buildSlice 60 1 #[(0, x)]) (c : Chg) (hl : c.p.length = 512) (hx : a.eval x = .agg (chC c).toArray) :
    (execOp a.eval o).run Tryz.prog w = .ok (.value (.slice (some ⟨w.heap.size, 0, none⟩) 1 1)) (w.alloc (.cells (chC c).toArray 120)) := by
  have hr := slice_of_chg c hl w
  unfold execOp
  simp only [hop, Array.map, hx]
  simp [hr, hx, Result.andThen]
theorem run_append_chg_op (s x : Operand) (hop : o.op = Op.call { callee := Callee.builtin Builtin.append, args := #[s, x], argTypes := #[60, 60] }) {v y v' : Value} {w' : World} (hs : a.eval s = v) (hx : a.eval x = y)
    (hrun : (Builtin.append_ #[60, 60] o.type #[v, y]).run Tryz.prog w = .ok v' w') : (execOp a.eval o).run Tryz.prog w = .ok (.value v') w' := by
  simp [execOp, hop, resolve, invoke, builtin, hs, hx, hrun, Result.andThen]
end
set_option maxRecDepth 100000 in
/-- Changes put behind others. -/
theorem append_chg {w : World} {base : Nat} {v : Value} {r t : List Chg} (hown : w.ownsRow base 120 513 v r.length (recC r)) {b off c : Nat} (ht : w.rangeAt b off (recC t)) (h5 : ∀ x ∈ t, x.p.length = 512) (hN : r.length + t.length ≤ 1000000) (hb : base ≤ w.heap.size) (ty : TypeId) :
    ∃ v' w', (Builtin.append_ #[60, 60] ty #[v, .slice (some ⟨b, off, none⟩) t.length c]).run Tryz.prog w = .ok v' w' ∧ w'.ownsRow base 120 513 v' (r ++ t).length (recC (r ++ t)) ∧ w.grownBy w' v.ownBlock ∧ (v'.ownBlock = v.ownBlock ∨ v'.ownBlock = some w.heap.size) := by
  obtain ⟨i0, hi, hz0, hz1, hz2⟩ := info_parts infoChg
  obtain ⟨v', w', hrun, h2, h3, _, h5'⟩ := run_append_own_at (P := Tryz.prog) w base 60 ty 120 i0 (.agg (chC zChg).toArray) 513 520 Tryz.underlying60 hi hz0 hz1 hz2 (by show (chC zChg).toArray.size = 513; rw [List.size_toArray]; exact chC_len (nought_len _)) (by omega) v r.length (recC r) hown ⟨b, off, none⟩ t.length c (recC t)
    (recC_len h5) (fun j z hj => by
      rw [Addr.add_mid]
      exact ht j z hj) (fun u hu => by
        obtain ⟨l, hl, hul⟩ := List.mem_flatten.1 hu
        obtain ⟨x, _, rfl⟩ := List.mem_map.1 hl
        exact chC_one x u hul) (by simp only [maxLen]; omega) (by omega) hb
  refine ⟨v', w', hrun, ?_, h3, h5'⟩
  rw [List.length_append, recC_app]
  exact h2
set_option maxRecDepth 100000 in
set_option maxHeartbeats 2000000 in
theorem record_any {w : World} {v : Value} {xs : List Leaf} (h : LvV w v xs) (hN : xs.length ≤ 1000000) : Calls Tryz.prog 29 #[v] w fun e w' => ∃ v', e = .returned v' ∧ w'.ownsRow w.heap.size 120 513 v' (xs.map Leaf.chg).length (recC (xs.map Leaf.chg)) ∧ Fr (fun _ => False) w w' := by
  obtain ⟨A, cap, rfl, h1, h2, h3⟩ := h
  obtain ⟨n, hn⟩ : ∃ n, n = xs.length := ⟨_, rfl⟩
  rw [← hn] at h1 h3 hN ⊢
  have HH := Lib.hid (And.intro hn h3)
  clear hn h3 h1 h2
  go_enter Tryz.func29, Tryz.ntmps29
  go_wp2_with fail
  go_loopw [3, 4] (fun t i wr => ∃ k : Nat, i = .int .i64 k ∧ k ≤ n ∧ Hid (wr.ownsRow w.heap.size 120 513 t ((xs.take k).map Leaf.chg).length (recC ((xs.take k).map Leaf.chg))) ∧ Hid (Fr (fun _ => False) w wr)) (fun _ i _ => n - (intOf i).toNat)
  case atStart => exact ⟨0, rfl, Nat.zero_le _, Lib.hid (World.ownsRow_nil _ _ _ _), Lib.hid (Fr.refl _ _)⟩
  case round =>
    obtain ⟨k, rfl, hk, HO, HF⟩ := hrel
    by_cases hlt : k < n
    · obtain ⟨b, off, rfl, hat⟩ := HH.out.2 (by omega)
      obtain ⟨x, hx⟩ : ∃ x, xs[k]? = some x := ⟨_, List.getElem?_eq_getElem (by have := HH.out.1; omega)⟩
      obtain ⟨hc1, Ab, cb, hc2, hrd, hbl⟩ := (hat.new HF.out) k x hx
      have hts : (xs.take (k + 1)).map Leaf.chg = (xs.take k).map Leaf.chg ++ [x.chg] := by rw [List.take_add_one, hx]; simp
      have hln : ((xs.take k).map Leaf.chg).length ≤ 1000000 - 1 := by rw [List.length_map, List.length_take]; omega
      have HX := Lib.hid (And.intro hc1 (And.intro hc2 (And.intro hrd (And.intro hbl (And.intro hts hln)))))
      have hi0 : (0 : Int) ≤ (k : Int) := by omega
      have hi1 : (k : Int) < (n : Int) := by omega
      have hbw : b < w.heap.size := World.block_lt_of_cell? w _ (hat k x hx).1
      clear hc1 hc2 hrd hts hat hln
      go_wp2_with fail
      have HC : Hid (∀ w', Fr (fun q => u3.ownBlock = some q) wr w' → w'.cell? ⟨b, off + k * 2, none⟩ = some (.int .i64 x.n) ∧ w'.cell? ⟨b, off + k * 2 + 1, none⟩ = some (.slice Ab x.b.length cb)) := Lib.hid fun w' f => by
        have hnb : ¬ u3.ownBlock = some b := fun e => by have := own_low HO.out e; omega
        exact ⟨(f.cell (World.block_lt_of_cell? wr _ HX.out.1) hnb).trans HX.out.1, (f.cell (World.block_lt_of_cell? wr _ HX.out.2.1) hnb).trans HX.out.2.1⟩
      refine wp_region_held_drew (S := fun w' => Fr (fun q => u3.ownBlock = some q) wr w') (by kernel_rfl) ((Fr.refl _ _).drew) (fun hS0 => ?_)
      refine anyH_take 0 11 u3 rfl rfl (by kernel_rfl) (by kernel_rfl) (by kernel_rfl) (fun _ _ _ h => h) (.inl ⟨by rfl, fun w'' hS => by go_simp⟩) hS0 ?_
      (simp only [List.setIfInBounds_toArray, List.set_cons_zero, List.set_cons_succ])
      refine anyH_take 1 12 (.slice (some ⟨b, off, none⟩) n cap) rfl rfl (by kernel_rfl) (by kernel_rfl) (by kernel_rfl) (fun _ _ _ h => h) (.inl ⟨by rfl, fun w'' hS => by go_simp⟩) hS0 ?_
      (simp only [List.setIfInBounds_toArray, List.set_cons_zero, List.set_cons_succ])
      refine anyH_take 2 13 (.int .i64 (k : Nat)) rfl rfl (by kernel_rfl) (by kernel_rfl) (by kernel_rfl) (fun _ _ _ h => h) (.inl ⟨by rfl, fun w'' hS => by go_simp⟩) hS0 ?_
      (simp only [List.setIfInBounds_toArray, List.set_cons_zero, List.set_cons_succ])
      refine anyH_take 3 14 (.pointer (some ⟨b, off + k * 2, none⟩)) rfl rfl (by kernel_rfl) (by kernel_rfl) (by kernel_rfl) (fun _ _ _ h => h) (.inl ⟨by rfl, fun w'' hS => by go_simp⟩) hS0 ?_
      (simp only [List.setIfInBounds_toArray, List.set_cons_zero, List.set_cons_succ])
      refine anyH_take 4 15 (.pointer (some ⟨b, off + k * 2, none⟩)) rfl rfl (by kernel_rfl) (by kernel_rfl) (by kernel_rfl) (fun _ _ _ h => h) (.inl ⟨by rfl, fun w'' hS => by go_simp⟩) hS0 ?_
      (simp only [List.setIfInBounds_toArray, List.set_cons_zero, List.set_cons_succ])
      refine anyH_take 5 16 (.int .i64 x.n) rfl rfl (by kernel_rfl) (by kernel_rfl) (by kernel_rfl) (fun _ _ _ h => h) (.inl ⟨by rfl, fun w'' hS => by have q := (HC.out w'' hS).1; go_simp⟩) hS0 ?_
      (simp only [List.setIfInBounds_toArray, List.set_cons_zero, List.set_cons_succ])
      refine anyH_take 6 17 (.slice (some ⟨b, off, none⟩) n cap) rfl rfl (by kernel_rfl) (by kernel_rfl) (by kernel_rfl) (fun _ _ _ h => h) (.inl ⟨by rfl, fun w'' hS => by go_simp⟩) hS0 ?_
      (simp only [List.setIfInBounds_toArray, List.set_cons_zero, List.set_cons_succ])
      refine anyH_take 7 18 (.int .i64 (k : Nat)) rfl rfl (by kernel_rfl) (by kernel_rfl) (by kernel_rfl) (fun _ _ _ h => h) (.inl ⟨by rfl, fun w'' hS => by go_simp⟩) hS0 ?_
      (simp only [List.setIfInBounds_toArray, List.set_cons_zero, List.set_cons_succ])
      refine anyH_take 8 19 (.pointer (some ⟨b, off + k * 2, none⟩)) rfl rfl (by kernel_rfl) (by kernel_rfl) (by kernel_rfl) (fun _ _ _ h => h) (.inl ⟨by rfl, fun w'' hS => by go_simp⟩) hS0 ?_
      (simp only [List.setIfInBounds_toArray, List.set_cons_zero, List.set_cons_succ])
      refine anyH_take 9 20 (.pointer (some ⟨b, off + k * 2 + 1, none⟩)) rfl rfl (by kernel_rfl) (by kernel_rfl) (by kernel_rfl) (fun _ _ _ h => h) (.inl ⟨by rfl, fun w'' hS => by go_simp⟩) hS0 ?_
      (simp only [List.setIfInBounds_toArray, List.set_cons_zero, List.set_cons_succ])
      refine anyH_take 10 21 (.slice Ab x.b.length cb) rfl rfl (by kernel_rfl) (by kernel_rfl) (by kernel_rfl) (fun _ _ _ h => h) (.inl ⟨by rfl, fun w'' hS => by have q := (HC.out w'' hS).2; go_simp⟩) hS0 ?_
      (simp only [List.setIfInBounds_toArray, List.set_cons_zero, List.set_cons_succ])
      refine anyH_enter 11 22 (f := 62) (args := #[.slice Ab x.b.length cb]) (by kernel_rfl) rfl rfl (by rfl) (by go_simp) ?_
      refine (page_any (HX.out.2.2.1.keep (F := fun _ => False) ((Fr.refl _ wr).drew) (fun _ _ q => q)) HX.out.2.2.2.1).mono ?_
      rintro e w4 ⟨rfl, f4⟩
      have f4' : Fr (fun _ => False) wr w4 := Fr.trans ((Fr.refl _ wr).drew) f4 (fun _ _ q => q)
      refine ⟨_, rfl, f4'.mono (fun _ _ q => q.elim), ?_⟩
      (simp only [List.setIfInBounds_toArray, List.set_cons_zero, List.set_cons_succ])
      refine anyH_value 12 23 (.agg (chC x.chg).toArray) w4 (by kernel_rfl) rfl rfl (by rfl) (run_build_chg_op (.tmp 16) (.tmp 22) rfl x.chg (pageOf_len _) rfl rfl) (f4'.mono (fun _ _ q => q.elim)) ?_
      (simp only [List.setIfInBounds_toArray, List.set_cons_zero, List.set_cons_succ])
      have hb5 := Blk.new w4 120 (chC x.chg).toArray
      have f5 : Fr (fun _ => False) wr (w4.alloc (.cells (chC x.chg).toArray 120)) := f4'.alloc _
      refine anyH_value 13 24 (.slice (some ⟨w4.heap.size, 0, none⟩) 1 1) (w4.alloc (.cells (chC x.chg).toArray 120)) (by kernel_rfl) rfl rfl (by rfl) (run_slice_chg_op (.tmp 23) rfl x.chg (pageOf_len _) rfl) (f5.mono (fun _ _ q => q.elim)) ?_
      (simp only [List.setIfInBounds_toArray, List.set_cons_zero, List.set_cons_succ])
      have hrg : (w4.alloc (.cells (chC x.chg).toArray 120)).rangeAt w4.heap.size 0 (recC [x.chg]) := fun j u hj => by
        rw [hb5.cell, Nat.zero_add]
        simpa [recC] using hj
      obtain ⟨v6, w6, hrun, ho6, hg6, _⟩ := append_chg (t := [x.chg]) (own_keep HO.out f5 (fun _ _ q => q)) hrg (fun y hy => by rw [List.mem_singleton.1 hy]; exact pageOf_len _) (by have := HX.out.2.2.2.2.2; simp at this ⊢; omega) (c := 1) (by have := HF.out.size; have := f5.size; omega) 60
      have f6 : Fr (fun q => u3.ownBlock = some q) wr w6 := (f5.mono (fun _ _ q => q.elim)).grown hg6 (fun j e => .inl e)
      refine anyH_value 14 25 v6 w6 (by kernel_rfl) rfl rfl (by rfl) (run_append_chg_op (.tmp 11) (.tmp 24) rfl rfl rfl hrun) f6 ?_
      (simp only [List.setIfInBounds_toArray, List.set_cons_zero, List.set_cons_succ])
      refine anyH_take 15 3 v6 rfl rfl (by kernel_rfl) (by kernel_rfl) (by kernel_rfl) (fun _ _ _ h => h) (.inl ⟨by rfl, fun w'' hS => by go_simp⟩) f6 ?_
      (simp only [List.setIfInBounds_toArray, List.set_cons_zero, List.set_cons_succ])
      refine wpAnyH_done (by kernel_rfl) ?_ _
      have H6 := Lib.hid (And.intro ho6 f6)
      clear ho6 f6 hg6 hrun hrg f5 hb5 f4 f4' hS0
      go_wp2_with fail
      have q := H6.out.1
      rw [← HX.out.2.2.2.2.1] at q
      exact ⟨⟨k + 1, by go_num, hlt, Lib.hid q, Lib.hid (HF.out.trans H6.out.2 (fun i hi e => absurd (own_low HO.out e) (by omega)))⟩, by simp [intOf]; omega⟩
    · obtain rfl : k = n := by omega
      have htk : xs.take k = xs := List.take_of_length_le (by have := HH.out.1; omega)
      rw [htk] at HO
      clear hlt hk htk
      go_wp2_with fail
      go_ret
      exact ⟨_, rfl, HO.out, HF.out⟩
end Go.Proofs.YtjdbgojnpnlblaaGreat
