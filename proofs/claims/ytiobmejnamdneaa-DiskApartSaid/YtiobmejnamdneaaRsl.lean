/- The document's disk: a sector's versions replaced; Open. -/
import Derived.Test.YtiobmejnamdneaaRrd
namespace Go.Proofs.Ytiobmejnamdneaa
open Go.RowKit Go.Maps

section
variable {w w1 : World} {g : Nat} {v : Value} {vs : List Value} {r : RD}
theorem RefW.setEl (h : RefW w g v vs r) {i : Nat} (hi : i < r.V.length) {RB c : Nat} {cur : Array Value} (hv : v = .slice (some ⟨RB, 0, none⟩) r.V.length c) (hb : Blk w RB 38 cur) (hnc : r.V.length ≤ c) (hcm : c ≤ maxLen) (hcs : cur.size = c) (htk : cur.toList.take r.V.length = vs)
    (f : Fr (fun _ => False) w w1) {x' : Value} {ss' : List (List UInt8)} (hrow : w1.ownsRow 0 31 128 x' ss'.length (cellsB ss'.flatten)) (hne : ss' ≠ []) (hall : ∀ s ∈ ss', s.length = 128) :
    RefW (w1.setCell ⟨RB, i, none⟩ x') g v (vs.set i x') { r with V := r.V.set i ss' } ∧ Fr (fun b => b = RB) w (w1.setCell ⟨RB, i, none⟩ x') := by
  have hob : v.ownBlock = some RB := by rw [hv]; rfl
  have f2 : Fr (fun b => b = RB) w1 (w1.setCell ⟨RB, i, none⟩ x') := (Fr.refl (fun b => b = RB) w1).setCell (p := ⟨RB, i, none⟩) (.inl rfl) _
  have f3 : Fr (fun b => b = RB) w (w1.setCell ⟨RB, i, none⟩ x') := (f.mono (fun _ _ q => q.elim)).trans f2 (fun _ _ q => q)
  have hb1 := (hb.keep f (fun q => q)).set_ i x'
  have hgR : g ≠ RB := fun e => h.g_row (by rw [hob, e])
  have hrow2 : (w1.setCell ⟨RB, i, none⟩ x').ownsRow 0 31 128 x' ss'.length (cellsB ss'.flatten) := own_keep hrow f2 (fun b hb2 e => by
    have e' : b = RB := e
    rw [e'] at hb2
    exact own_ne hrow (hb.keep f (fun q => q)) (by decide) hb2)
  refine ⟨h.turn (f3.mono (fun b _ e => .inr (by have e' : b = RB := e; rw [e']; exact hob))) (h.blk.keep f3 hgR) ?_ (fun j x ss hx hs => ?_), f3⟩
  · have hl : (r.V.set i ss').length = r.V.length := by simp
    show (w1.setCell ⟨RB, i, none⟩ x').ownsRow 0 38 1 v (r.V.set i ss').length (vs.set i x')
    rw [hl]
    refine ⟨by rw [List.length_set]; have := h.len; omega, .inr ⟨RB, c, cur.setIfInBounds i x', hv, Nat.zero_le _, hb1, hnc, hcm, by simp [hcs], ?_⟩⟩
    rw [Nat.mul_one, Array.toList_setIfInBounds, List.take_set, htk]
  · by_cases e : j = i
    · subst e
      have hjl : j < vs.length := by have := h.len; omega
      rw [List.getElem?_set_self hjl] at hx
      injection hx with hx
      subst hx
      have hs' : (r.V.set j ss')[j]? = some ss := hs
      rw [List.getElem?_set_self hi] at hs'
      injection hs' with hs'
      subst hs'
      exact .inr ⟨hrow2, hne, hall⟩
    · have hs' : (r.V.set i ss')[j]? = some ss := hs
      rw [List.getElem?_set_ne (fun q => e q.symm)] at hx hs'
      exact .inl ⟨List.mem_of_getElem? hx, hs', hx⟩
end
theorem infoInt : (Try.prog.info? 3).map (fun i => (i.zero, i.size, i.bytes)) = some (some (.int .i64 0), 1, 8) := by kernel_rfl
section
variable {ops : Array Oper} {o : Oper} {a : Act} {Q : Exit → Act → World → Prop}
theorem wpList_append_int {rest : List Oper} {w : World} (hg : o.guard = none) (s x : Operand) (hop : o.op = Op.call { callee := Callee.builtin Builtin.append, args := #[s, x], argTypes := #[32, 32] })
    {base : Nat} {v : Value} {n : Nat} {xs : List Value} (h : w.ownsRow base 3 1 v n xs) {B : Nat} {z : Int} (hB : Blk w B 3 #[.int .i64 z]) (hs : a.eval s = v) (hx : a.eval x = .slice (some ⟨B, 0, none⟩) 1 1) (hN : n ≤ 1000000) (hbase : base ≤ w.heap.size)
    (hK : ∀ v' w', w'.ownsRow base 3 1 v' (n + 1) (xs ++ [.int .i64 z]) → w.grownBy w' v.ownBlock → (v'.ownBlock = v.ownBlock ∨ v'.ownBlock = some w.heap.size) → wpList Try.prog ops Q rest (a.put o.dst v') w') : wpList Try.prog ops Q (o :: rest) a w := by
  refine wpList_plain hg fun K hK' => ?_
  obtain ⟨i0, hi, hz0, hz1, hz2⟩ := info_parts infoInt
  obtain ⟨v', w', hrun, g2, g3, _, g5⟩ := run_append_own_at (P := Try.prog) w base 32 o.type 3 i0 (.int .i64 0) 1 8 Try.underlying32 hi hz0 hz1 hz2 (by rfl) (by omega) v n xs h ⟨B, 0, none⟩ 1 1 [.int .i64 z]
    rfl (fun j u hj => by
      rw [Addr.add_lit, Nat.zero_add, hB.cell]
      simpa using hj) (by simp [Value.oneCell']) (by simp only [maxLen]; omega) (by omega) hbase
  unfold Oper.wp
  simp [execOp, hop, resolve, invoke, builtin, hs, hx, hrun, Result.andThen]
  exact hK' _ _ (hK v' w' g2 g3 g5)
end
/-- The open sectors. -/
def RD.openTo (r : RD) (k : Nat) : List Nat := (List.range k).filter (fun i => decide (1 < (r.V.getD i []).length))
def RD.openL (r : RD) : List Nat := r.openTo r.V.length
theorem openTo_succ (r : RD) (k : Nat) : r.openTo (k + 1) = r.openTo k ++ (if 1 < (r.V.getD k []).length then [k] else []) := by
  unfold RD.openTo
  rw [List.range_succ, List.filter_append]
  congr 1
  by_cases h : 1 < (r.V.getD k []).length
  · rw [if_pos h, List.filter_cons_of_pos (by simpa using h)]; rfl
  · rw [if_neg h, List.filter_cons_of_neg (by simpa using h)]; rfl
theorem openTo_len (r : RD) (k : Nat) : (r.openTo k).length ≤ k := by
  unfold RD.openTo
  have := List.length_filter_le (fun i => decide (1 < (r.V.getD i []).length)) (List.range k)
  simpa using this
section
variable {w : World} {g : Nat} {v : Value} {vs : List Value} {r : RD}
set_option maxRecDepth 100000 in
theorem ropen_any (h : RefW w g v vs r) (hn8 : r.V.length ≤ 10000) : Calls Try.prog 32 #[.pointer (some ⟨g, 0, none⟩)] w fun e w' => ∃ lv, e = .returned lv ∧ w'.ownsRow w.heap.size 3 1 lv r.openL.length ((asZ r.openL).map encZ) ∧ Fr (fun _ => False) w w' := by
  obtain ⟨A, c, hv, hnc, hcm⟩ := own_slice h.row
  obtain ⟨n, hn⟩ : ∃ n, n = r.V.length := ⟨_, rfl⟩
  obtain ⟨B, hB⟩ : ∃ B, B = w.heap.size := ⟨_, rfl⟩
  rw [← hn] at hn8 hv
  have hv' : v = .slice A n c := hv
  have HN := Lib.hid (And.intro hn (And.intro h (And.intro hB hv')))
  unfold RD.openL
  rw [← hn, ← hB]
  clear hn h hv hv' hnc hcm hB
  go_enter Try.func32, Try.ntmps32
  go_wp2_with fail
  go_loopw [3, 4] (fun l i wr => ∃ k : Nat, i = .int .i64 k ∧ k ≤ n ∧ Hid (wr.ownsRow B 3 1 l (r.openTo k).length ((asZ (r.openTo k)).map encZ)) ∧ Hid (Fr (fun _ => False) w wr)) (fun _ i _ => n - (intOf i).toNat)
  case atStart => exact ⟨0, rfl, Nat.zero_le _, Lib.hid (by simp [RD.openTo]; exact World.ownsRow_nil _ _ _ _), Lib.hid (Fr.refl _ _)⟩
  case round =>
    obtain ⟨k, rfl, hk, HL, HF⟩ := hrel
    have hR : RefW wr g v vs r := HN.out.2.1.keep HF.out (fun _ _ q => q)
    have c0 : wr.cell? ⟨g, 0, none⟩ = some (.slice A n c) := (hR.blk.cell 0).trans (by rw [HN.out.2.2.2]; rfl)
    obtain ⟨Al, cl, hlv, hl1, hl2⟩ := own_slice HL.out
    subst hlv
    by_cases hlt : k < n
    · obtain ⟨RB, c', cur, hv2, hb, _, _, _, htk⟩ := hR.form (by have := HN.out.1; omega)
      obtain ⟨ss, hss⟩ : ∃ ss, r.V[k]? = some ss := ⟨_, List.getElem?_eq_getElem (by have := HN.out.1; omega)⟩
      obtain ⟨x, hx, hrow, hne, hall⟩ := hR.at_ hss
      obtain ⟨Ax, cx, hxe, _, hx2⟩ := own_slice hrow
      have hA : A = some ⟨RB, 0, none⟩ := by
        have h1 := HN.out.2.2.2
        rw [hv2] at h1
        injection h1 with h1
        exact h1.symm
      subst hA
      have cxx := row_at hb htk hx
      rw [hxe] at cxx
      obtain ⟨m, hm⟩ : ∃ m, m = ss.length := ⟨_, rfl⟩
      rw [← hm] at cxx
      have hgd : (r.V.getD k []).length = m := by rw [List.getD_eq_getElem?_getD, hss, hm]; rfl
      have hop := openTo_succ r k
      rw [hgd] at hop
      have hlen := openTo_len r k
      have HO := Lib.hid (And.intro hop hlen)
      have hi0 : (0 : Int) ≤ (k : Int) := by omega
      have hi1 : (k : Int) < (n : Int) := by omega
      clear hv2 hb htk hss hx hrow hne hall hxe hx2 hm hgd hop hR hl1 hl2 hlen
      by_cases hm1 : 1 < m
      · have hmi : (1 : Int) < (m : Int) := by omega
        have hmi' : (m : Int) > 1 := hmi
        have fa := (Fr.refl (fun _ => False) wr).alloc (.cells #[.int .i64 (k : Int)] 3)
        have hnew := own_keep HL.out fa (fun _ _ q => q)
        have hBk := Blk.new wr 3 #[.int .i64 (k : Int)]
        have HA := Lib.hid (And.intro hnew (And.intro hBk (HF.out.trans fa (fun _ _ q => q))))
        have hszB : B ≤ wr.heap.size := by have := HF.out.size; have := HN.out.2.2.1; omega
        clear fa hnew hBk
        go_wp2_with (refine wpList_append_int rfl (.tmp 23) (.tmp 25) rfl HA.out.1 HA.out.2.1 rfl rfl (by have := HO.out.2; omega) (by have := HA.out.2.2.size; have := HN.out.2.2.1; omega) ?_; intro v' w' g1 g2 g3)
        have HE := Lib.hid (And.intro g1 ((HA.out.2.2.grown g2 (fun b hb => .inr (by have := (own_base HL.out hb); have := HN.out.2.2.1; omega)))))
        clear g1 g2 g3
        exact ⟨⟨k + 1, by go_num, by omega, Lib.hid (by rw [HO.out.1, if_pos hm1]; simpa [encZ] using HE.out.1), Lib.hid HE.out.2⟩, by simp [intOf]; omega⟩
      · have hmi : ¬ ((1 : Int) < (m : Int)) := by omega
        have hmi' : ¬ ((m : Int) > 1) := hmi
        have HL2 : Hid (wr.ownsRow B 3 1 (.slice Al (r.openTo k).length cl) (r.openTo (k + 1)).length ((asZ (r.openTo (k + 1))).map encZ)) := Lib.hid (by rw [HO.out.1, if_neg hm1, List.append_nil]; exact HL.out)
        go_wp2_with fail
        exact ⟨⟨k + 1, by go_num, by omega, HL2, HF⟩, by simp [intOf]; omega⟩
    · obtain rfl : k = n := by omega
      clear hlt hk hR
      go_wp2_with fail
      go_ret
      exact ⟨_, rfl, HL.out, HF.out⟩
end
end Go.Proofs.Ytiobmejnamdneaa
