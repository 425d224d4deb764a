/- couponref06: insert. -/
import Derived.Test.YtcnlgbjkjlbmbaaGreatQwi
namespace Go.Proofs.YtcnlgbjkjlbmbaaGreat
open Go.RowKit

theorem szI64 : ∀ w, (sizeOf (Tryz.prog.elem 27)).run Tryz.prog w = .ok 1 w := fun w => by
 obtain ⟨i0, hi, hz0, hz1, hz2⟩ := info_parts infoI64
 have e : Tryz.prog.elem 27 = 3 := by kernel_rfl
 rw [e]
 simp [sizeOf, typeInfo, hi, hz1]
def IntsN (w : World) (v : Value) (zs : List Int) : Prop := IntsAt w v zs ∧ ∃ A c, v = .slice A zs.length c ∧ zs.length ≤ c ∧ (A = none → c = 0)
section
variable {w w' : World} {v : Value} {zs : List Int}
theorem intsN_own {base : Nat} (h : w.ownsRow base 3 1 v zs.length (zs.map intV)) : IntsN w v zs := by
 refine ⟨intsAt_own h, ?_⟩
 rcases h.2 with ⟨e1, e2⟩ | ⟨g, cap, cur, e1, _, _, hc, _⟩
 · exact ⟨none, 0, by rw [e2, e1], by omega, fun _ => rfl⟩
 · exact ⟨_, _, e1, hc, fun q => by cases q⟩
theorem intsN_len {base m : Nat} (h : w.ownsRow base 3 1 v m (zs.map intV)) (hm : zs.length = m) : IntsN w v zs := by
 subst hm
 exact intsN_own h
theorem IntsN.keep {F : Nat → Prop} (h : IntsN w v zs) (f : Fr F w w') (hF : ∀ b, v.ownBlock = some b → ¬ F b) : IntsN w' v zs := ⟨h.1.keep f hF, h.2⟩
theorem ints_from (h : IntsN w v zs) {k : Nat} (hk : k ≤ zs.length) : ∃ v', (∀ W, (Instr.slice 27 v (some (.int .i64 (k : Int))) none none).run Tryz.prog W = .ok v' W) ∧ IntsN w v' (zs.drop k) ∧ ∀ b, v'.ownBlock = some b → v.ownBlock = some b := by
 obtain ⟨hi, A, c, rfl, hc, hA⟩ := h
 refine ⟨.slice (if c = k then A else A.map fun x => x.add (k * 1)) (zs.length - k) (c - k), fun W => ?_, ⟨?_, ?_⟩, fun b hb => ?_⟩
 · rw [run_slice_l W 27 A zs.length c (by kernel_rfl) .i64 k (by omega) (by omega), szI64]
   simp [Result.andThen, sliced]
 · obtain ⟨A', c', he, hm, h2⟩ := hi
   injection he with e1 _ e3
   subst e1 e3
   refine ⟨_, _, by rw [List.length_drop], by rw [List.length_drop]; omega, fun h0 => ?_⟩
   rw [List.length_drop] at h0
   obtain ⟨b, off, rfl, h3⟩ := h2 (by omega)
   refine ⟨b, off + k, by rw [if_neg (by omega), Nat.mul_one]; simp [add_plain], fun i z hz => ?_⟩
   rw [List.getElem?_drop] at hz
   rw [Nat.add_assoc]
   exact h3 _ _ hz
 · refine ⟨_, _, by rw [List.length_drop], by rw [List.length_drop]; omega, fun q => ?_⟩
   split at q
   · omega
   · have := hA (by cases A <;> simp_all)
     omega
 · cases A with
   | none => split at hb <;> cases hb
   | some a =>
     have hb' : some a.block = some b := by
      split at hb
      · exact hb
      · have hb2 : some (a.add (k * 1)).block = some b := hb
        rw [add_block] at hb2
        exact hb2
     exact hb'
set_option maxRecDepth 100000 in
theorem append_ints {n base : Nat} {xs : List Value} (hown : w.ownsRow base 3 1 v n xs) {x : Value} {zs : List Int} (hx : IntsN w x zs) (hn : n + zs.length ≤ 400000) (hb : base ≤ w.heap.size) (ty : TypeId) :
 ∃ v' w', (Builtin.append_ #[27, 27] ty #[v, x]).run Tryz.prog w = .ok v' w' ∧ w'.ownsRow base 3 1 v' (n + zs.length) (xs ++ zs.map intV) ∧ w.grownBy w' v.ownBlock ∧ (v'.ownBlock = v.ownBlock ∨ v'.ownBlock = some w.heap.size) := by
 obtain ⟨i0, hi, hz0, hz1, hz2⟩ := info_parts infoI64
 obtain ⟨⟨A', c', he, hm, h2⟩, A, c, rfl, hc, hA⟩ := hx
 injection he with e1 _ e3
 subst e1 e3
 cases A with
 | none =>
   have hc0 := hA rfl
   subst hc0
   have hz : zs = [] := List.length_eq_zero_iff.1 (by omega)
   subst hz
   refine ⟨v, w, run_append_owned_none w base 27 ty 3 i0 1 Tryz.underlying27 hi v n xs hown, by simpa using hown, ⟨rfl, rfl, rfl, Nat.le_refl _, fun _ _ _ => rfl⟩, .inl rfl⟩
 | some a =>
   have hcells : ∀ j u, (zs.map intV)[j]? = some u → w.cell? (a.add j) = some u := fun j u hj => by
    rw [List.getElem?_map, Option.map_eq_some_iff] at hj
    obtain ⟨z, hz, rfl⟩ := hj
    obtain ⟨b, off, e, h3⟩ := h2 (by have := (List.getElem?_eq_some_iff.1 hz).1; omega)
    injection e with e
    rw [e, add_plain]
    exact h3 j z hz
   obtain ⟨v', w', hrun, g2, g3, _, g5⟩ := run_append_own_at (P := Tryz.prog) w base 27 ty 3 i0 (.int .i64 0) 1 8 Tryz.underlying27 hi hz0 hz1 hz2 rfl (by omega) v n xs hown a zs.length c (zs.map intV) (by simp) hcells (fun u hu => by obtain ⟨z, _, rfl⟩ := List.mem_map.1 hu; rfl) (by simp only [maxLen]; omega) (by omega) hb
   exact ⟨v', w', hrun, g2, g3, g5⟩
theorem one_int (n : Int) (w : World) : ∃ W, Fr (fun _ => False) w W ∧ IntsN W (.slice (some ⟨w.heap.size, 0, none⟩) 1 1) [n] ∧ ∀ {o : Oper} {a : Act} (x : Operand), o.op = .buildSlice 27 1 #[(0, x)] → a.eval x = .int .i64 n → (execOp a.eval o).run Tryz.prog w = .ok (.value (.slice (some ⟨w.heap.size, 0, none⟩) 1 1)) W := by
 refine ⟨w.alloc (.cells #[.int .i64 n] 3), (Fr.refl _ w).alloc _, ⟨⟨_, _, rfl, by simp [maxLen], fun _ => ⟨w.heap.size, 0, rfl, fun i z hz => ?_⟩⟩, _, _, rfl, Nat.le_refl _, fun q => by cases q⟩, fun x hop hx => ?_⟩
 · rw [(Blk.new w 3 #[.int .i64 n]).cell]
   cases i with
   | zero => simp at hz; simp [hz]
   | succ i => simp at hz
 · have hr := slice_of_int n w
   simp [execOp, hop, hx, hr, Result.andThen]
theorem run_append_int_op {w w' : World} {o : Oper} {a : Act} {v y v' : Value} (s x : Operand) (hop : o.op = Op.call { callee := Callee.builtin Builtin.append, args := #[s, x], argTypes := #[27, 27] }) (hs : a.eval s = v) (hx : a.eval x = y)
 (hrun : (Builtin.append_ #[27, 27] o.type #[v, y]).run Tryz.prog w = .ok v' w') : (execOp a.eval o).run Tryz.prog w = .ok (.value v') w' := by
 simp [execOp, hop, resolve, invoke, builtin, hs, hx, hrun, Result.andThen]
set_option maxRecDepth 100000 in
set_option maxHeartbeats 8000000 in
theorem insert_any {l : List Int} (h : IntsN w v l) (hl : l.length ≤ 100000) (n : Int) : Calls Tryz.prog 65 #[v, .int .i64 n] w fun e w' => ∃ v' l', e = .returned v' ∧ l'.length = l.length + 1 ∧ IntsN w' v' l' ∧ (∀ b, v'.ownBlock = some b → w.heap.size ≤ b ∧ ∃ cs, Blk w' b 3 cs) ∧ Fr (fun _ => False) w w' := by
 have H0 := Lib.hid h
 obtain ⟨m, hm⟩ : ∃ m, m = l.length := ⟨_, rfl⟩
 have hm1 : m ≤ 100000 := by omega
 have HM := Lib.hid (And.intro (And.intro hm hm1) h)
 obtain ⟨_, A, c, hv, _, _⟩ := h
 rw [← hm] at hv
 subst hv
 clear hm hl
 go_enter Tryz.func65, Tryz.ntmps65
 go_wp2_with fail
 go_loopw [5, 6] (fun t x wr => ∃ k : Nat, x = .int .i64 k ∧ k ≤ m ∧ Hid (wr.ownsRow w.heap.size 3 1 t k ((l.take k).map intV)) ∧ Hid (Fr (fun _ => False) w wr)) (fun _ x _ => m - (intOf x).toNat)
 case atStart => exact ⟨0, rfl, Nat.zero_le _, Lib.hid (World.ownsRow_nil _ _ _ _), Lib.hid (Fr.refl _ _)⟩
 case round =>
  obtain ⟨k, rfl, hk, HO, HF⟩ := hrel
  by_cases hlt : k < m
  · obtain ⟨z, hz⟩ : ∃ z, l[k]? = some z := ⟨_, List.getElem?_eq_getElem (by have := HM.out.1; omega)⟩
    obtain ⟨b, off, c', hvA, hcell⟩ := H0.out.1.cell hz
    have hA : A = some ⟨b, off, none⟩ := by injection hvA
    have hfc : wr.cell? ⟨b, off + k, none⟩ = some (.int .i64 z) := (HF.out.cell (World.block_lt_of_cell? w _ hcell) (fun q => q)).trans hcell
    have hts : l.take (k + 1) = l.take k ++ [z] := by rw [List.take_add_one, hz]; rfl
    have hk0 : (0 : Int) ≤ (k : Int) := by omega
    have hkm : (k : Int) < (m : Int) := by omega
    have HTS := Lib.hid hts
    clear hts hcell hz hvA
    by_cases hzn : z < n
    · subst hA
      have hsl := slice_of_int z wr
      have hcu : (wr.alloc (.cells #[.int .i64 z] 3)).cell? ⟨wr.heap.size, 0, none⟩ = some (.int .i64 z) := by
       rw [(Blk.new wr 3 #[.int .i64 z]).cell]
       rfl
      have fa : Fr (fun _ => False) wr (wr.alloc (.cells #[.int .i64 z] 3)) := (Fr.refl _ wr).alloc _
      have ho := own_keep HO.out fa (fun _ _ q => q)
      have HA := Lib.hid (And.intro hk (And.intro hcu (And.intro fa (And.intro ho HF.out.size))))
      clear hcu fa ho hlt
      go_wp2_with (first
       | (at_builtin; refine wpList_push_int rfl (.tmp 21) (.tmp 26) rfl rfl HA.out.2.2.2.1 rfl HA.out.2.1 (by have := HM.out.1.2; omega) (by have := HA.out.2.2.2.2; have := HA.out.2.2.1.size; omega) ?_; intro v3 w3 ho3 hg3 hat3; have f3 := (HF.out.trans HA.out.2.2.1 (fun _ _ q => q)).grown hg3 (fun k hk => .inr (own_low HA.out.2.2.2.1 hk)); have H3 := Lib.hid (And.intro ho3 f3); clear ho3 hg3 hat3 f3))
      refine ⟨⟨k + 1, by norm_cast, by omega, Lib.hid ?_, Lib.hid H3.out.2⟩, ?_⟩
      · have := H3.out.1
        rw [HTS.out, List.map_append]
        exact this
      · simp only [intOf]
        omega
    · subst hA
      clear hlt
      obtain ⟨A2, c2, ht, _, _⟩ := own_slice HO.out
      have hio := intsN_len (zs := l.take k) HO.out (by rw [List.length_take]; have := HM.out.1; omega)
      subst ht
      obtain ⟨V3, hs3, hi3, hb3⟩ := ints_from HM.out.2 (k := k) (by have := HM.out.1; omega)
      have HT := Lib.hid (And.intro hio (And.intro (show k ≤ l.length ∧ l.length ≤ 100000 by have := HM.out.1; omega) (And.intro (hi3.keep HF.out (fun _ _ q => q)) hk)))
      clear hio hi3 hb3
      go_wp2_with fail
      (try simp only [Act.put, List.setIfInBounds_toArray, List.set_cons_zero, List.set_cons_succ])
      refine wp_region_held_drew (S := fun w' => Fr (fun _ => False) wr w') (by kernel_rfl) ((Fr.refl _ wr).drew) (fun hS0 => ?_)
      refine anyH_tk 0 28 (Value.slice A2 k c2) rfl rfl (.inl ⟨by rfl, fun w'' hS => by go_simp⟩) hS0 ?_
      (simp only [sA, sB, sC])
      refine anyH_tk 2 30 (Value.int .i64 n) rfl rfl (.inl ⟨by rfl, fun w'' hS => by go_simp⟩) hS0 ?_
      (simp only [sA, sB, sC])
      refine anyH_tk 5 33 (Value.slice (some ⟨b, off, none⟩) m c) rfl rfl (.inl ⟨by rfl, fun w'' hS => by go_simp⟩) hS0 ?_
      (simp only [sA, sB, sC])
      refine anyH_tk 6 34 (Value.slice A2 k c2) rfl rfl (.inl ⟨by rfl, fun w'' hS => by go_simp⟩) hS0 ?_
      (simp only [sA, sB, sC])
      refine anyH_tk 7 35 (Value.int .i64 (k : Nat)) rfl rfl (.inl ⟨by rfl, fun w'' hS => by go_simp⟩) hS0 ?_
      (simp only [sA, sB, sC])
      refine anyH_tk 8 36 (V3) rfl rfl (.inl ⟨by rfl, fun w'' hS => by go_simp⟩) hS0 ?_
      (simp only [sA, sB, sC])
      refine anyH_alt 1 3 (by kernel_rfl) ?_ ?_
      · have fd : Fr (fun _ => False) wr wr.drew := (Fr.refl (fun _ => False) wr).drew
        obtain ⟨v1, w1, r1, o1, g1, at1⟩ := append_ints (World.ownsRow_nil wr.drew wr.heap.size 3 1) (x := .slice A2 k c2) (zs := l.take k) (HT.out.1.keep fd (fun _ _ q => q)) (by have := HT.out.2.1; have := HT.out.2.2.2; simp only [List.length_take, List.length_drop, List.length_cons, List.length_nil]; omega) (Nat.le_trans fd.size (Nat.le_refl _)) 27
        have F1 : Fr (fun _ => False) wr w1 := fd.grown g1 (fun k hk => by cases hk)
        refine wpOp_value 29 v1 rfl rfl (by rfl) (run_append_int_op (.const (.slice none 0 0)) (.tmp 28) rfl rfl rfl r1) ⟨F1, ?_⟩
        (simp only [sA, sB, sC])
        obtain ⟨w2, fbw2, ibw2, rbw2⟩ := one_int n w1
        have F2 := F1.trans fbw2 (fun _ _ q => q)
        refine anyH_value 3 31 (.slice (some ⟨w1.heap.size, 0, none⟩) 1 1) w2 (by kernel_rfl) rfl rfl (by rfl) (rbw2 (.tmp 30) rfl rfl) (F2) ?_
        (simp only [sA, sB, sC])
        obtain ⟨v3, w3, r3, o3, g3, at3⟩ := append_ints (own_keep o1 fbw2 (fun _ _ q => q)) (x := (.slice (some ⟨w1.heap.size, 0, none⟩) 1 1)) (zs := [n]) ibw2 (by have := HT.out.2.1; have := HT.out.2.2.2; simp only [List.length_take, List.length_drop, List.length_cons, List.length_nil]; omega) (Nat.le_trans F2.size (Nat.le_refl _)) 27
        have F3 : Fr (fun _ => False) wr w3 := F2.grown g3 (fun j hj => .inr (own_low o1 hj))
        refine anyH_value 4 32 v3 w3 (by kernel_rfl) rfl rfl (by rfl) (run_append_int_op (.tmp 29) (.tmp 31) rfl rfl rfl r3) (F3) ?_
        (simp only [sA, sB, sC])
        obtain ⟨v4, w4, r4, o4, g4, at4⟩ := append_ints o3 (x := V3) (zs := l.drop k) (HT.out.2.2.1.keep F3 (fun _ _ q => q)) (by have := HT.out.2.1; have := HT.out.2.2.2; simp only [List.length_take, List.length_drop, List.length_cons, List.length_nil]; omega) (Nat.le_trans F3.size (Nat.le_refl _)) 27
        have F4 : Fr (fun _ => False) wr w4 := F3.grown g4 (fun j hj => .inr (own_low o3 hj))
        refine anyH_value 9 37 v4 w4 (by kernel_rfl) rfl rfl (by rfl) (run_append_int_op (.tmp 32) (.tmp 36) rfl rfl rfl r4) (F4) ?_
        (simp only [sA, sB, sC])
        refine anyH_tk 10 4 (v4) rfl rfl (.inl ⟨by rfl, fun w'' hS => by go_simp⟩) F4 ?_
        (simp only [sA, sB, sC])
        refine wpAnyH_done (by kernel_rfl) ?_ _
        have HE : Hid (IntsN w4 v4 (l.take k ++ [n] ++ l.drop k) ∧ (l.take k ++ [n] ++ l.drop k).length = l.length + 1 ∧ (∀ b, v4.ownBlock = some b → wr.heap.size ≤ b ∧ ∃ cs, Blk w4 b 3 cs) ∧ Fr (fun _ => False) wr w4) := Lib.hid ⟨intsN_len (m := 0 + (l.take k).length + [n].length + (l.drop k).length) (by have := o4; simpa [List.append_assoc] using this) (by simp; omega), (by have := HT.out.2.1; have := HT.out.2.2.2; simp only [List.length_append, List.length_take, List.length_drop, List.length_cons, List.length_nil]; omega), fun b hb => ⟨own_low o4 hb, own_blk o4 hb⟩, F4⟩
        clear hS0 fd r1 o1 g1 at1 F1 fbw2 ibw2 rbw2 F2 r3 o3 g3 at3 F3 r4 o4 g4 at4 F4
        go_wp2_with fail
        go_ret
        exact ⟨_, _, rfl, HE.out.2.1, HE.out.1, fun b hb => ⟨Nat.le_trans HF.out.size (HE.out.2.2.1 b hb).1, (HE.out.2.2.1 b hb).2⟩, HF.out.trans HE.out.2.2.2 (fun _ _ q => q)⟩
      · have fd : Fr (fun _ => False) wr wr.drew := (Fr.refl (fun _ => False) wr).drew
        obtain ⟨w1, fbw1, ibw1, rbw1⟩ := one_int n wr.drew
        have F1 := fd.trans fbw1 (fun _ _ q => q)
        refine wpOp_value 31 (.slice (some ⟨wr.drew.heap.size, 0, none⟩) 1 1) rfl rfl (by rfl) (rbw1 (.tmp 30) rfl rfl) ⟨F1, ?_⟩
        (simp only [sA, sB, sC])
        obtain ⟨v2, w2, r2, o2, g2, at2⟩ := append_ints (World.ownsRow_nil w1 wr.heap.size 3 1) (x := .slice A2 k c2) (zs := l.take k) (HT.out.1.keep F1 (fun _ _ q => q)) (by have := HT.out.2.1; have := HT.out.2.2.2; simp only [List.length_take, List.length_drop, List.length_cons, List.length_nil]; omega) (Nat.le_trans F1.size (Nat.le_refl _)) 27
        have F2 : Fr (fun _ => False) wr w2 := F1.grown g2 (fun k hk => by cases hk)
        have gb2 : Fr (fun _ => False) w1 w2 := (Fr.refl _ w1).grown g2 (fun k hk => by cases hk)
        refine anyH_value 1 29 v2 w2 (by kernel_rfl) rfl rfl (by rfl) (run_append_int_op (.const (.slice none 0 0)) (.tmp 28) rfl rfl rfl r2) (F2) ?_
        (simp only [sA, sB, sC])
        obtain ⟨v3, w3, r3, o3, g3, at3⟩ := append_ints o2 (x := (.slice (some ⟨wr.drew.heap.size, 0, none⟩) 1 1)) (zs := [n]) (ibw1.keep gb2 (fun _ _ q => q)) (by have := HT.out.2.1; have := HT.out.2.2.2; simp only [List.length_take, List.length_drop, List.length_cons, List.length_nil]; omega) (Nat.le_trans F2.size (Nat.le_refl _)) 27
        have F3 : Fr (fun _ => False) wr w3 := F2.grown g3 (fun j hj => .inr (own_low o2 hj))
        refine anyH_value 4 32 v3 w3 (by kernel_rfl) rfl rfl (by rfl) (run_append_int_op (.tmp 29) (.tmp 31) rfl rfl rfl r3) (F3) ?_
        (simp only [sA, sB, sC])
        obtain ⟨v4, w4, r4, o4, g4, at4⟩ := append_ints o3 (x := V3) (zs := l.drop k) (HT.out.2.2.1.keep F3 (fun _ _ q => q)) (by have := HT.out.2.1; have := HT.out.2.2.2; simp only [List.length_take, List.length_drop, List.length_cons, List.length_nil]; omega) (Nat.le_trans F3.size (Nat.le_refl _)) 27
        have F4 : Fr (fun _ => False) wr w4 := F3.grown g4 (fun j hj => .inr (own_low o3 hj))
        refine anyH_value 9 37 v4 w4 (by kernel_rfl) rfl rfl (by rfl) (run_append_int_op (.tmp 32) (.tmp 36) rfl rfl rfl r4) (F4) ?_
        (simp only [sA, sB, sC])
        refine anyH_tk 10 4 (v4) rfl rfl (.inl ⟨by rfl, fun w'' hS => by go_simp⟩) F4 ?_
        (simp only [sA, sB, sC])
        refine wpAnyH_done (by kernel_rfl) ?_ _
        have HE : Hid (IntsN w4 v4 (l.take k ++ [n] ++ l.drop k) ∧ (l.take k ++ [n] ++ l.drop k).length = l.length + 1 ∧ (∀ b, v4.ownBlock = some b → wr.heap.size ≤ b ∧ ∃ cs, Blk w4 b 3 cs) ∧ Fr (fun _ => False) wr w4) := Lib.hid ⟨intsN_len (m := 0 + (l.take k).length + [n].length + (l.drop k).length) (by have := o4; simpa [List.append_assoc] using this) (by simp; omega), (by have := HT.out.2.1; have := HT.out.2.2.2; simp only [List.length_append, List.length_take, List.length_drop, List.length_cons, List.length_nil]; omega), fun b hb => ⟨own_low o4 hb, own_blk o4 hb⟩, F4⟩
        clear hS0 fd fbw1 ibw1 rbw1 F1 r2 o2 g2 at2 F2 gb2 r3 o3 g3 at3 F3 r4 o4 g4 at4 F4
        go_wp2_with fail
        go_ret
        exact ⟨_, _, rfl, HE.out.2.1, HE.out.1, fun b hb => ⟨Nat.le_trans HF.out.size (HE.out.2.2.1 b hb).1, (HE.out.2.2.1 b hb).2⟩, HF.out.trans HE.out.2.2.2 (fun _ _ q => q)⟩
  · have hkm : ¬ (k : Int) < (m : Int) := by omega
    clear hlt
    obtain ⟨A2, c2, ht, _, _⟩ := own_slice HO.out
    have hio := intsN_len (zs := l.take k) HO.out (by rw [List.length_take]; have := HM.out.1; omega)
    subst ht
    obtain ⟨V3, hs3, hi3, hb3⟩ := ints_from HM.out.2 (k := k) (by have := HM.out.1; omega)
    have HT := Lib.hid (And.intro hio (And.intro (show k ≤ l.length ∧ l.length ≤ 100000 by have := HM.out.1; omega) (And.intro (hi3.keep HF.out (fun _ _ q => q)) hk)))
    clear hio hi3 hb3
    go_wp2_with fail
    (try simp only [Act.put, List.setIfInBounds_toArray, List.set_cons_zero, List.set_cons_succ])
    refine wp_region_held_drew (S := fun w' => Fr (fun _ => False) wr w') (by kernel_rfl) ((Fr.refl _ wr).drew) (fun hS0 => ?_)
    refine anyH_tk 0 28 (Value.slice A2 k c2) rfl rfl (.inl ⟨by rfl, fun w'' hS => by go_simp⟩) hS0 ?_
    (simp only [sA, sB, sC])
    refine anyH_tk 2 30 (Value.int .i64 n) rfl rfl (.inl ⟨by rfl, fun w'' hS => by go_simp⟩) hS0 ?_
    (simp only [sA, sB, sC])
    refine anyH_tk 5 33 (Value.slice A m c) rfl rfl (.inl ⟨by rfl, fun w'' hS => by go_simp⟩) hS0 ?_
    (simp only [sA, sB, sC])
    refine anyH_tk 6 34 (Value.slice A2 k c2) rfl rfl (.inl ⟨by rfl, fun w'' hS => by go_simp⟩) hS0 ?_
    (simp only [sA, sB, sC])
    refine anyH_tk 7 35 (Value.int .i64 (k : Nat)) rfl rfl (.inl ⟨by rfl, fun w'' hS => by go_simp⟩) hS0 ?_
    (simp only [sA, sB, sC])
    refine anyH_tk 8 36 (V3) rfl rfl (.inl ⟨by rfl, fun w'' hS => by go_simp⟩) hS0 ?_
    (simp only [sA, sB, sC])
    refine anyH_alt 1 3 (by kernel_rfl) ?_ ?_
    · have fd : Fr (fun _ => False) wr wr.drew := (Fr.refl (fun _ => False) wr).drew
      obtain ⟨v1, w1, r1, o1, g1, at1⟩ := append_ints (World.ownsRow_nil wr.drew wr.heap.size 3 1) (x := .slice A2 k c2) (zs := l.take k) (HT.out.1.keep fd (fun _ _ q => q)) (by have := HT.out.2.1; have := HT.out.2.2.2; simp only [List.length_take, List.length_drop, List.length_cons, List.length_nil]; omega) (Nat.le_trans fd.size (Nat.le_refl _)) 27
      have F1 : Fr (fun _ => False) wr w1 := fd.grown g1 (fun k hk => by cases hk)
      refine wpOp_value 29 v1 rfl rfl (by rfl) (run_append_int_op (.const (.slice none 0 0)) (.tmp 28) rfl rfl rfl r1) ⟨F1, ?_⟩
      (simp only [sA, sB, sC])
      obtain ⟨w2, fbw2, ibw2, rbw2⟩ := one_int n w1
      have F2 := F1.trans fbw2 (fun _ _ q => q)
      refine anyH_value 3 31 (.slice (some ⟨w1.heap.size, 0, none⟩) 1 1) w2 (by kernel_rfl) rfl rfl (by rfl) (rbw2 (.tmp 30) rfl rfl) (F2) ?_
      (simp only [sA, sB, sC])
      obtain ⟨v3, w3, r3, o3, g3, at3⟩ := append_ints (own_keep o1 fbw2 (fun _ _ q => q)) (x := (.slice (some ⟨w1.heap.size, 0, none⟩) 1 1)) (zs := [n]) ibw2 (by have := HT.out.2.1; have := HT.out.2.2.2; simp only [List.length_take, List.length_drop, List.length_cons, List.length_nil]; omega) (Nat.le_trans F2.size (Nat.le_refl _)) 27
      have F3 : Fr (fun _ => False) wr w3 := F2.grown g3 (fun j hj => .inr (own_low o1 hj))
      refine anyH_value 4 32 v3 w3 (by kernel_rfl) rfl rfl (by rfl) (run_append_int_op (.tmp 29) (.tmp 31) rfl rfl rfl r3) (F3) ?_
      (simp only [sA, sB, sC])
      obtain ⟨v4, w4, r4, o4, g4, at4⟩ := append_ints o3 (x := V3) (zs := l.drop k) (HT.out.2.2.1.keep F3 (fun _ _ q => q)) (by have := HT.out.2.1; have := HT.out.2.2.2; simp only [List.length_take, List.length_drop, List.length_cons, List.length_nil]; omega) (Nat.le_trans F3.size (Nat.le_refl _)) 27
      have F4 : Fr (fun _ => False) wr w4 := F3.grown g4 (fun j hj => .inr (own_low o3 hj))
      refine anyH_value 9 37 v4 w4 (by kernel_rfl) rfl rfl (by rfl) (run_append_int_op (.tmp 32) (.tmp 36) rfl rfl rfl r4) (F4) ?_
      (simp only [sA, sB, sC])
      refine anyH_tk 10 4 (v4) rfl rfl (.inl ⟨by rfl, fun w'' hS => by go_simp⟩) F4 ?_
      (simp only [sA, sB, sC])
      refine wpAnyH_done (by kernel_rfl) ?_ _
      have HE : Hid (IntsN w4 v4 (l.take k ++ [n] ++ l.drop k) ∧ (l.take k ++ [n] ++ l.drop k).length = l.length + 1 ∧ (∀ b, v4.ownBlock = some b → wr.heap.size ≤ b ∧ ∃ cs, Blk w4 b 3 cs) ∧ Fr (fun _ => False) wr w4) := Lib.hid ⟨intsN_len (m := 0 + (l.take k).length + [n].length + (l.drop k).length) (by have := o4; simpa [List.append_assoc] using this) (by simp; omega), (by have := HT.out.2.1; have := HT.out.2.2.2; simp only [List.length_append, List.length_take, List.length_drop, List.length_cons, List.length_nil]; omega), fun b hb => ⟨own_low o4 hb, own_blk o4 hb⟩, F4⟩
      clear hS0 fd r1 o1 g1 at1 F1 fbw2 ibw2 rbw2 F2 r3 o3 g3 at3 F3 r4 o4 g4 at4 F4
      go_wp2_with fail
      go_ret
      exact ⟨_, _, rfl, HE.out.2.1, HE.out.1, fun b hb => ⟨Nat.le_trans HF.out.size (HE.out.2.2.1 b hb).1, (HE.out.2.2.1 b hb).2⟩, HF.out.trans HE.out.2.2.2 (fun _ _ q => q)⟩
    · have fd : Fr (fun _ => False) wr wr.drew := (Fr.refl (fun _ => False) wr).drew
      obtain ⟨w1, fbw1, ibw1, rbw1⟩ := one_int n wr.drew
      have F1 := fd.trans fbw1 (fun _ _ q => q)
      refine wpOp_value 31 (.slice (some ⟨wr.drew.heap.size, 0, none⟩) 1 1) rfl rfl (by rfl) (rbw1 (.tmp 30) rfl rfl) ⟨F1, ?_⟩
      (simp only [sA, sB, sC])
      obtain ⟨v2, w2, r2, o2, g2, at2⟩ := append_ints (World.ownsRow_nil w1 wr.heap.size 3 1) (x := .slice A2 k c2) (zs := l.take k) (HT.out.1.keep F1 (fun _ _ q => q)) (by have := HT.out.2.1; have := HT.out.2.2.2; simp only [List.length_take, List.length_drop, List.length_cons, List.length_nil]; omega) (Nat.le_trans F1.size (Nat.le_refl _)) 27
      have F2 : Fr (fun _ => False) wr w2 := F1.grown g2 (fun k hk => by cases hk)
      have gb2 : Fr (fun _ => False) w1 w2 := (Fr.refl _ w1).grown g2 (fun k hk => by cases hk)
      refine anyH_value 1 29 v2 w2 (by kernel_rfl) rfl rfl (by rfl) (run_append_int_op (.const (.slice none 0 0)) (.tmp 28) rfl rfl rfl r2) (F2) ?_
      (simp only [sA, sB, sC])
      obtain ⟨v3, w3, r3, o3, g3, at3⟩ := append_ints o2 (x := (.slice (some ⟨wr.drew.heap.size, 0, none⟩) 1 1)) (zs := [n]) (ibw1.keep gb2 (fun _ _ q => q)) (by have := HT.out.2.1; have := HT.out.2.2.2; simp only [List.length_take, List.length_drop, List.length_cons, List.length_nil]; omega) (Nat.le_trans F2.size (Nat.le_refl _)) 27
      have F3 : Fr (fun _ => False) wr w3 := F2.grown g3 (fun j hj => .inr (own_low o2 hj))
      refine anyH_value 4 32 v3 w3 (by kernel_rfl) rfl rfl (by rfl) (run_append_int_op (.tmp 29) (.tmp 31) rfl rfl rfl r3) (F3) ?_
      (simp only [sA, sB, sC])
      obtain ⟨v4, w4, r4, o4, g4, at4⟩ := append_ints o3 (x := V3) (zs := l.drop k) (HT.out.2.2.1.keep F3 (fun _ _ q => q)) (by have := HT.out.2.1; have := HT.out.2.2.2; simp only [List.length_take, List.length_drop, List.length_cons, List.length_nil]; omega) (Nat.le_trans F3.size (Nat.le_refl _)) 27
      have F4 : Fr (fun _ => False) wr w4 := F3.grown g4 (fun j hj => .inr (own_low o3 hj))
      refine anyH_value 9 37 v4 w4 (by kernel_rfl) rfl rfl (by rfl) (run_append_int_op (.tmp 32) (.tmp 36) rfl rfl rfl r4) (F4) ?_
      (simp only [sA, sB, sC])
      refine anyH_tk 10 4 (v4) rfl rfl (.inl ⟨by rfl, fun w'' hS => by go_simp⟩) F4 ?_
      (simp only [sA, sB, sC])
      refine wpAnyH_done (by kernel_rfl) ?_ _
      have HE : Hid (IntsN w4 v4 (l.take k ++ [n] ++ l.drop k) ∧ (l.take k ++ [n] ++ l.drop k).length = l.length + 1 ∧ (∀ b, v4.ownBlock = some b → wr.heap.size ≤ b ∧ ∃ cs, Blk w4 b 3 cs) ∧ Fr (fun _ => False) wr w4) := Lib.hid ⟨intsN_len (m := 0 + (l.take k).length + [n].length + (l.drop k).length) (by have := o4; simpa [List.append_assoc] using this) (by simp; omega), (by have := HT.out.2.1; have := HT.out.2.2.2; simp only [List.length_append, List.length_take, List.length_drop, List.length_cons, List.length_nil]; omega), fun b hb => ⟨own_low o4 hb, own_blk o4 hb⟩, F4⟩
      clear hS0 fd fbw1 ibw1 rbw1 F1 r2 o2 g2 at2 F2 gb2 r3 o3 g3 at3 F3 r4 o4 g4 at4 F4
      go_wp2_with fail
      go_ret
      exact ⟨_, _, rfl, HE.out.2.1, HE.out.1, fun b hb => ⟨Nat.le_trans HF.out.size (HE.out.2.2.1 b hb).1, (HE.out.2.2.1 b hb).2⟩, HF.out.trans HE.out.2.2.2 (fun _ _ q => q)⟩
end
end Go.Proofs.YtcnlgbjkjlbmbaaGreat

