/- slices.Clone of coupons, taxes, events; ticket's Clone. -/
import Derived.Test.YtmopkfjnjbimnaaKor
import Derived.Laws.ResultCell
namespace Go.Proofs.Ytmopkfjnjbimnaa
open Go.RowKit

section
variable {ops : Array Oper} {o : Oper} {a : Act} {Q : Exit → Act → World → Prop} {α : Type} {k : Nat} {T : TypeId} {enc : α → List Value}
set_option maxRecDepth 100000 in
theorem wpList_clone {rest : List Oper} {w : World} (hg : o.guard = none) (s x : Operand) (t : TypeId) (hop : o.op = Op.call { callee := Callee.builtin Builtin.append, args := #[s, x], argTypes := #[t, t] }) {B g : Nat} (hs : a.eval s = .slice (some ⟨g, 0, none⟩) 0 0)
    (hown : w.ownsRow B T k (.slice (some ⟨g, 0, none⟩) 0 0) 0 []) {ad : Addr} {xs : List α} {n c : Nat} (hx : a.eval x = .slice (some ad) n c) (hn : n = xs.length)
    {i : TypeInfo} {z : Value} {bytes : Nat} (ht : Try.prog.underlying t = some (.slice T)) (hi : Try.prog.info? T = some i) (hz : i.zero = some z) (hsize : i.size = k) (hby : i.bytes = bytes) (hzs : z.cells.size = k) (hk0 : 0 < k)
    (hk : ∀ x, (enc x).length = k) (h1 : ∀ x, ∀ u ∈ enc x, u.oneCell' = true) (h : RwV w k enc (.slice (some ad) n c) xs) (hb : xs.length * bytes ≤ 140737488355328) (hB : B ≤ w.heap.size)
    (hK : ∀ v' w', RwO w' B T k enc v' xs → Fr (fun b => b = g) w w' → wpList Try.prog ops Q rest (a.put o.dst v') w') : wpList Try.prog ops Q (o :: rest) a w := by
  refine wpList_plain hg fun K' hK' => ?_
  subst hn
  have hsrc : ∀ (j : Nat) (u : Value), (xs.flatMap enc)[j]? = some u → w.cell? (ad.add j) = some u := by
    intro j u hj
    obtain ⟨i', x', q, rfl, hq, hx', hu⟩ := flat_at hk xs j u hj
    obtain ⟨b, off, c', e, hc⟩ := h.cell hx'
    injection e with e
    injection e with e
    subst e
    rw [add_plain]
    have := hc q u hu
    rwa [Nat.add_assoc] at this
  obtain ⟨v', w', hr, ho, hgr, _, _⟩ := run_append_own_at (P := Try.prog) w B t o.type T i z k bytes ht hi hz hsize hby hzs hk0 (.slice (some ⟨g, 0, none⟩) 0 0) 0 [] hown ad xs.length c (xs.flatMap enc) (flat_len hk xs) hsrc
    (fun u hu => by
      obtain ⟨x', _, hx'⟩ := List.mem_flatMap.1 hu
      exact h1 x' u hx') (by obtain ⟨_, _, e, h5, h6⟩ := h.slice; injection e with _ _ e; subst e; omega) (by simpa using hb) hB
  rw [Nat.zero_add, List.nil_append] at ho
  unfold Oper.wp
  simp [execOp, hop, resolve, invoke, builtin, hs, hx, hr, Result.andThen]
  exact hK' _ _ (hK v' w' ho ((Fr.refl _ w).grown hgr (fun k' hk' => .inl (by injection hk' with hk'; exact hk'.symm))))
end
theorem eqn_cp (w : World) (a : Option Addr) (n c n' c' : Nat) : (binOp .eql 23 (.slice a n c) (.slice none n' c')).run Try.prog w = .ok (.bool a.isNone) w := Lib.run_eql_slice_nil w _ _ a n c n' c' Try.underlying23
set_option maxRecDepth 100000 in
theorem pclone_cp {w : World} {v : Value} {xs : List CpD} (h : RwV w 6 cpC v xs) (hn : xs.length ≤ 100000) : Calls Try.prog 63 #[v] w fun e w' => ∃ v', e = .returned v' ∧ RwO w' w.heap.size 49 6 cpC v' xs ∧ Fr (fun _ => False) w w' := by
  obtain ⟨i0, hi, hz0, hz1, hz2⟩ := info_parts infoCp
  have q := eqn_cp
  have HV := Lib.hid h
  obtain ⟨A, c, rfl, hc, hm, hA⟩ := h
  cases A with
  | none =>
    have h0 : xs = [] := by
      rcases Nat.eq_zero_or_pos xs.length with h | h
      · exact List.length_eq_zero_iff.1 h
      · obtain ⟨_, _, e, _⟩ := hA h
        cases e
    subst h0
    clear hA
    go_enter Try.func63, Try.ntmps63
    go_wp2_with fail
    go_ret
    exact ⟨_, rfl, RwO.nil _ _ _ _ _, Fr.refl _ _⟩
  | some ad =>
    obtain ⟨n, hne⟩ : ∃ n, n = xs.length := ⟨_, rfl⟩
    rw [← hne] at HV
    rw [← hne]
    have HN := Lib.hid (And.intro hn hne)
    have fa : Fr (fun _ => False) w (w.alloc (.cells #[] 49)) := (Fr.refl _ w).alloc _
    have hr' := Lib.hid (HV.out.keep0 fa)
    have HFA := Lib.hid fa
    have ho : (w.alloc (.cells #[] 49)).ownsRow w.heap.size 49 6 (.slice (some ⟨w.heap.size, 0, none⟩) 0 0) 0 [] := World.ownsRow_made w #[] 0 (Nat.le_refl _) (Nat.zero_le _) rfl
    have HO := Lib.hid ho
    clear hc hm hA hn hne fa ho
    go_enter Try.func63, Try.ntmps63
    go_wp2_with (at_builtin; refine wpList_clone rfl _ _ 23 rfl rfl HO.out rfl HN.out.2 Try.underlying23 hi hz0 hz1 hz2 rfl (by omega) cpC_len cpC_one hr'.out (by have := HN.out.1; omega) (by have := HFA.out.size; omega) ?_; intro v' w' hown f2)
    go_ret
    exact ⟨v', rfl, hown, HFA.out.trans f2 (fun b hb q => by have h6 : b = w.heap.size := q; omega)⟩
theorem eqn_tx (w : World) (a : Option Addr) (n c n' c' : Nat) : (binOp .eql 24 (.slice a n c) (.slice none n' c')).run Try.prog w = .ok (.bool a.isNone) w := Lib.run_eql_slice_nil w _ _ a n c n' c' Try.underlying24
set_option maxRecDepth 100000 in
theorem pclone_tx {w : World} {v : Value} {xs : List TxD} (h : RwV w 2 txC v xs) (hn : xs.length ≤ 100000) : Calls Try.prog 64 #[v] w fun e w' => ∃ v', e = .returned v' ∧ RwO w' w.heap.size 62 2 txC v' xs ∧ Fr (fun _ => False) w w' := by
  obtain ⟨i0, hi, hz0, hz1, hz2⟩ := info_parts infoTx
  have q := eqn_tx
  have HV := Lib.hid h
  obtain ⟨A, c, rfl, hc, hm, hA⟩ := h
  cases A with
  | none =>
    have h0 : xs = [] := by
      rcases Nat.eq_zero_or_pos xs.length with h | h
      · exact List.length_eq_zero_iff.1 h
      · obtain ⟨_, _, e, _⟩ := hA h
        cases e
    subst h0
    clear hA
    go_enter Try.func64, Try.ntmps64
    go_wp2_with fail
    go_ret
    exact ⟨_, rfl, RwO.nil _ _ _ _ _, Fr.refl _ _⟩
  | some ad =>
    obtain ⟨n, hne⟩ : ∃ n, n = xs.length := ⟨_, rfl⟩
    rw [← hne] at HV
    rw [← hne]
    have HN := Lib.hid (And.intro hn hne)
    have fa : Fr (fun _ => False) w (w.alloc (.cells #[] 62)) := (Fr.refl _ w).alloc _
    have hr' := Lib.hid (HV.out.keep0 fa)
    have HFA := Lib.hid fa
    have ho : (w.alloc (.cells #[] 62)).ownsRow w.heap.size 62 2 (.slice (some ⟨w.heap.size, 0, none⟩) 0 0) 0 [] := World.ownsRow_made w #[] 0 (Nat.le_refl _) (Nat.zero_le _) rfl
    have HO := Lib.hid ho
    clear hc hm hA hn hne fa ho
    go_enter Try.func64, Try.ntmps64
    go_wp2_with (at_builtin; refine wpList_clone rfl _ _ 24 rfl rfl HO.out rfl HN.out.2 Try.underlying24 hi hz0 hz1 hz2 rfl (by omega) txC_len txC_one hr'.out (by have := HN.out.1; omega) (by have := HFA.out.size; omega) ?_; intro v' w' hown f2)
    go_ret
    exact ⟨v', rfl, hown, HFA.out.trans f2 (fun b hb q => by have h6 : b = w.heap.size := q; omega)⟩
theorem eqn_ev (w : World) (a : Option Addr) (n c n' c' : Nat) : (binOp .eql 25 (.slice a n c) (.slice none n' c')).run Try.prog w = .ok (.bool a.isNone) w := Lib.run_eql_slice_nil w _ _ a n c n' c' Try.underlying25
set_option maxRecDepth 100000 in
theorem pclone_ev {w : World} {v : Value} {xs : List EvT} (h : RwV w 4 evC v xs) (hn : xs.length ≤ 100000) : Calls Try.prog 65 #[v] w fun e w' => ∃ v', e = .returned v' ∧ RwO w' w.heap.size 51 4 evC v' xs ∧ Fr (fun _ => False) w w' := by
  obtain ⟨i0, hi, hz0, hz1, hz2⟩ := info_parts infoEv
  have q := eqn_ev
  have HV := Lib.hid h
  obtain ⟨A, c, rfl, hc, hm, hA⟩ := h
  cases A with
  | none =>
    have h0 : xs = [] := by
      rcases Nat.eq_zero_or_pos xs.length with h | h
      · exact List.length_eq_zero_iff.1 h
      · obtain ⟨_, _, e, _⟩ := hA h
        cases e
    subst h0
    clear hA
    go_enter Try.func65, Try.ntmps65
    go_wp2_with fail
    go_ret
    exact ⟨_, rfl, RwO.nil _ _ _ _ _, Fr.refl _ _⟩
  | some ad =>
    obtain ⟨n, hne⟩ : ∃ n, n = xs.length := ⟨_, rfl⟩
    rw [← hne] at HV
    rw [← hne]
    have HN := Lib.hid (And.intro hn hne)
    have fa : Fr (fun _ => False) w (w.alloc (.cells #[] 51)) := (Fr.refl _ w).alloc _
    have hr' := Lib.hid (HV.out.keep0 fa)
    have HFA := Lib.hid fa
    have ho : (w.alloc (.cells #[] 51)).ownsRow w.heap.size 51 4 (.slice (some ⟨w.heap.size, 0, none⟩) 0 0) 0 [] := World.ownsRow_made w #[] 0 (Nat.le_refl _) (Nat.zero_le _) rfl
    have HO := Lib.hid ho
    clear hc hm hA hn hne fa ho
    go_enter Try.func65, Try.ntmps65
    go_wp2_with (at_builtin; refine wpList_clone rfl _ _ 25 rfl rfl HO.out rfl HN.out.2 Try.underlying25 hi hz0 hz1 hz2 rfl (by omega) evC_len evC_one hr'.out (by have := HN.out.1; omega) (by have := HFA.out.size; omega) ?_; intro v' w' hown f2)
    go_ret
    exact ⟨v', rfl, hown, HFA.out.trans f2 (fun b hb q => by have h6 : b = w.heap.size := q; omega)⟩
/-- The box of a ticket, its three rows put anew. -/
theorem blk_three {w : World} {g : Nat} {t : TkD} {sc sx se : Value} (h : Blk w g 27 (tkA t sc sx se)) (uc ux ue : Value) :
    Blk (w.setCell ⟨g, 3, none⟩ uc) g 27 (tkA t uc sx se) ∧ Blk ((w.setCell ⟨g, 3, none⟩ uc).setCell ⟨g, 4, none⟩ ux) g 27 (tkA t uc ux se) ∧ Blk (((w.setCell ⟨g, 3, none⟩ uc).setCell ⟨g, 4, none⟩ ux).setCell ⟨g, 10, none⟩ ue) g 27 (tkA t uc ux ue) := by
  have h1 := h.set_ 3 uc
  have h2 := h1.set_ 4 ux
  have h3 := h2.set_ 10 ue
  exact ⟨h1, h2, h3⟩
theorem cl_fin {w w3 : World} {g : Nat} {t : TkD} {sc sx se v4 v5 v6 : Value} {z : Array Value} {B : Nat} (hf : Fr (fun _ => False) w w3) (hw : w.heap.size ≤ g) (hB : g + 2 ≤ B) (hb : Blk w3 g 27 (tkA t sc sx se)) (hz : Blk w3 (g + 1) 27 z)
    (h4 : RwO w3 B 49 6 cpC v4 t.cps) (h5 : RwO w3 B 62 2 txC v5 t.txs) (h6 : RwO w3 B 51 4 evC v6 t.his) {W : World} (hW : W = ((w3.setCell ⟨g, 3, none⟩ v4).setCell ⟨g, 4, none⟩ v5).setCell ⟨g, 10, none⟩ v6) :
    Fr (fun _ => False) w W ∧ Blk W g 27 (tkA t v4 v5 v6) ∧ Blk W (g + 1) 27 z ∧ RwO W B 49 6 cpC v4 t.cps ∧ RwO W B 62 2 txC v5 t.txs ∧ RwO W B 51 4 evC v6 t.his := by
  subst hW
  have f : Fr (fun b => b = g) w3 (((w3.setCell ⟨g, 3, none⟩ v4).setCell ⟨g, 4, none⟩ v5).setCell ⟨g, 10, none⟩ v6) := (((Fr.refl (fun b => b = g) w3).setCell (p := ⟨g, 3, none⟩) (.inl rfl) v4).setCell (p := ⟨g, 4, none⟩) (.inl rfl) v5).setCell (p := ⟨g, 10, none⟩) (.inl rfl) v6
  refine ⟨hf.trans f (fun b hb q => by have h6 : b = g := q; omega), (blk_three hb v4 v5 v6).2.2, hz.keep f (fun q => by have h6 : g + 1 = g := q; omega), h4.keep f (fun b hb q => ?_), h5.keep f (fun b hb q => ?_), h6.keep f (fun b hb q => ?_)⟩
  · have := (h4.low hb).1; have h6 : b = g := q; omega
  · have := (h5.low hb).1; have h6 : b = g := q; omega
  · have := (h6.low hb).1; have h6 : b = g := q; omega
set_option maxRecDepth 100000 in
set_option maxHeartbeats 4000000 in
theorem pclone_any {w : World} {v : Value} {t : TkD} (hv : TkV w v t) (h1n : t.cps.length ≤ 100000) (h2n : t.txs.length ≤ 100000) (h3n : t.his.length ≤ 100000) :
    Calls Try.prog 29 #[v] w fun e w' => ∃ v', e = .returned v' ∧ TkO w' w.heap.size v' t ∧ Fr (fun _ => False) w w' := by
  have HV := Lib.hid hv
  obtain ⟨sc, sx, se, rfl, a1, a2, a3⟩ := hv
  have HA := Lib.hid (And.intro a1 (And.intro a2 a3))
  obtain ⟨A1, n1, c1, e1⟩ : ∃ A n c, sc = .slice A n c := by obtain ⟨A, c, e, _⟩ := a1.slice; exact ⟨A, _, c, e⟩
  obtain ⟨A2, n2, c2, e2⟩ : ∃ A n c, sx = .slice A n c := by obtain ⟨A, c, e, _⟩ := a2.slice; exact ⟨A, _, c, e⟩
  obtain ⟨A3, n3, c3, e3⟩ : ∃ A n c, se = .slice A n c := by obtain ⟨A, c, e, _⟩ := a3.slice; exact ⟨A, _, c, e⟩
  subst e1 e2 e3
  have HN := Lib.hid (And.intro h1n (And.intro h2n h3n))
  obtain ⟨W0, hW0⟩ : ∃ W0, W0 = (w.alloc (.cells (tkA t (.slice A1 n1 c1) (.slice A2 n2 c2) (.slice A3 n3 c3)) 27)).alloc (.cells #[.int .u64 0, .string ⟨#[]⟩, .int .i64 0, .slice none 0 0, .slice none 0 0, .int .u64 0, .int .u64 0, .int .u64 0, .int .i64 0, .int .i64 0, .slice none 0 0] 27) := ⟨_, rfl⟩
  have HB : Hid (Fr (fun _ => False) w W0 ∧ Blk W0 w.heap.size 27 (tkA t (.slice A1 n1 c1) (.slice A2 n2 c2) (.slice A3 n3 c3)) ∧ Blk W0 (w.heap.size + 1) 27 #[.int .u64 0, .string ⟨#[]⟩, .int .i64 0, .slice none 0 0, .slice none 0 0, .int .u64 0, .int .u64 0, .int .u64 0, .int .i64 0, .int .i64 0, .slice none 0 0] ∧ w.heap.size + 2 ≤ W0.heap.size) := Lib.hid (by
    rw [hW0]
    have e9 : (w.alloc (.cells (tkA t (.slice A1 n1 c1) (.slice A2 n2 c2) (.slice A3 n3 c3)) 27)).heap.size = w.heap.size + 1 := Array.size_push _
    refine ⟨((Fr.refl _ w).alloc _).alloc _, (Blk.new w _ _).keep ((Fr.refl (fun _ => False) _).alloc _) (fun q => q), ?_, ?_⟩
    · have := Blk.new (w.alloc (.cells (tkA t (.slice A1 n1 c1) (.slice A2 n2 c2) (.slice A3 n3 c3)) 27)) 27 #[.int .u64 0, .string ⟨#[]⟩, .int .i64 0, .slice none 0 0, .slice none 0 0, .int .u64 0, .int .u64 0, .int .u64 0, .int .i64 0, .int .i64 0, .slice none 0 0]
      rwa [e9] at this
    · have := Array.size_push (xs := (w.alloc (.cells (tkA t (.slice A1 n1 c1) (.slice A2 n2 c2) (.slice A3 n3 c3)) 27)).heap) (.cells #[.int .u64 0, .string ⟨#[]⟩, .int .i64 0, .slice none 0 0, .slice none 0 0, .int .u64 0, .int .u64 0, .int .u64 0, .int .i64 0, .int .i64 0, .slice none 0 0] 27)
      show w.heap.size + 2 ≤ ((w.alloc (.cells (tkA t (.slice A1 n1 c1) (.slice A2 n2 c2) (.slice A3 n3 c3)) 27)).heap.push _).size
      rw [Array.size_push, e9]
      omega)
  have HQ := Lib.hid hW0
  have HX : Hid (∀ W, Fr (fun _ => False) W0 W → W.cell? ⟨w.heap.size, 3, none⟩ = some (.slice A1 n1 c1) ∧ W.cell? ⟨w.heap.size, 4, none⟩ = some (.slice A2 n2 c2) ∧ W.cell? ⟨w.heap.size, 10, none⟩ = some (.slice A3 n3 c3)) := Lib.hid (fun W f => by
    have hb := HB.out.2.1.keep f (fun q => q)
    exact ⟨cp_cell hb 3 rfl, cp_cell hb 4 rfl, cp_cell hb 10 rfl⟩)
  clear a1 a2 a3 hW0 h1n h2n h3n
  go_enter Try.func29, Try.ntmps29
  go_upto_region 1 with fail
  rw [← HQ.out]
  clear HQ
  refine anyL_begin (S := fun w' => Fr (fun _ => False) W0 w') 10 (by kernel_rfl) ((Fr.refl _ W0).drew) (fun hS0 => ?_)
  refine anyL_take 0 3 (.pointer (some ⟨w.heap.size, 3, none⟩)) rfl rfl (by kernel_rfl) (by kernel_rfl) (by kernel_rfl) (by kernel_rfl) (fun _ _ _ h => h) (.inl ⟨by rfl, fun w'' hS => by go_simp⟩) hS0 ?_
  (simp only [List.setIfInBounds_toArray, List.set_cons_zero, List.set_cons_succ])
  refine anyL_take 3 6 (.pointer (some ⟨w.heap.size, 4, none⟩)) rfl rfl (by kernel_rfl) (by kernel_rfl) (by kernel_rfl) (by kernel_rfl) (fun _ _ _ h => h) (.inl ⟨by rfl, fun w'' hS => by go_simp⟩) hS0 ?_
  (simp only [List.setIfInBounds_toArray, List.set_cons_zero, List.set_cons_succ])
  refine anyL_take 6 9 (.pointer (some ⟨w.heap.size, 10, none⟩)) rfl rfl (by kernel_rfl) (by kernel_rfl) (by kernel_rfl) (by kernel_rfl) (fun _ _ _ h => h) (.inl ⟨by rfl, fun w'' hS => by go_simp⟩) hS0 ?_
  (simp only [List.setIfInBounds_toArray, List.set_cons_zero, List.set_cons_succ])
  refine anyL_take 1 4 (.slice A1 n1 c1) rfl rfl (by kernel_rfl) (by kernel_rfl) (by kernel_rfl) (by kernel_rfl) (fun _ _ _ h => h) (.inl ⟨by rfl, fun w'' hS => by have q0 := (HX.out _ hS).1; go_simp⟩) hS0 ?_
  (simp only [List.setIfInBounds_toArray, List.set_cons_zero, List.set_cons_succ])
  refine anyL_take 4 7 (.slice A2 n2 c2) rfl rfl (by kernel_rfl) (by kernel_rfl) (by kernel_rfl) (by kernel_rfl) (fun _ _ _ h => h) (.inl ⟨by rfl, fun w'' hS => by have q0 := (HX.out _ hS).2.1; go_simp⟩) hS0 ?_
  (simp only [List.setIfInBounds_toArray, List.set_cons_zero, List.set_cons_succ])
  refine anyL_take 7 10 (.slice A3 n3 c3) rfl rfl (by kernel_rfl) (by kernel_rfl) (by kernel_rfl) (by kernel_rfl) (fun _ _ _ h => h) (.inl ⟨by rfl, fun w'' hS => by have q0 := (HX.out _ hS).2.2; go_simp⟩) hS0 ?_
  (simp only [List.setIfInBounds_toArray, List.set_cons_zero, List.set_cons_succ])
  refine anyL_enter 2 5 (f := 63) (args := #[.slice A1 n1 c1]) (by kernel_rfl) rfl rfl (by rfl) (by go_simp) ?_
  refine (pclone_cp ((HA.out.1).keep0 (HB.out.1.trans hS0 (fun _ _ q => q))) (HN.out.1)).mono ?_
  rintro e wq4 ⟨v4, rfl, ho4, fq4⟩
  refine ⟨_, rfl, hS0.trans fq4 (fun _ _ q => q), ?_⟩
  (simp only [List.setIfInBounds_toArray, List.set_cons_zero, List.set_cons_succ])
  have hS0 := hS0.trans fq4 (fun _ _ q => q)
  have HF4 := hS0.size
  obtain ⟨A4, n4, c4, ev4⟩ : ∃ A n c, v4 = .slice A n c := by obtain ⟨A, c, e, _⟩ := (own_slice ho4); exact ⟨A, _, c, e⟩
  subst ev4
  refine anyL_take 9 12 (.pointer (some ⟨w.heap.size, 3, none⟩)) rfl rfl (by kernel_rfl) (by kernel_rfl) (by kernel_rfl) (by kernel_rfl) (fun _ _ _ h => h) (.inl ⟨by rfl, fun w'' hS => by go_simp⟩) hS0 ?_
  (simp only [List.setIfInBounds_toArray, List.set_cons_zero, List.set_cons_succ])
  refine anyL_enter 5 8 (f := 64) (args := #[.slice A2 n2 c2]) (by kernel_rfl) rfl rfl (by rfl) (by go_simp) ?_
  refine (pclone_tx ((HA.out.2.1).keep0 (HB.out.1.trans hS0 (fun _ _ q => q))) (HN.out.2.1)).mono ?_
  rintro e wq5 ⟨v5, rfl, ho5, fq5⟩
  refine ⟨_, rfl, hS0.trans fq5 (fun _ _ q => q), ?_⟩
  (simp only [List.setIfInBounds_toArray, List.set_cons_zero, List.set_cons_succ])
  have hS0 := hS0.trans fq5 (fun _ _ q => q)
  have HF5 := hS0.size
  obtain ⟨A5, n5, c5, ev5⟩ : ∃ A n c, v5 = .slice A n c := by obtain ⟨A, c, e, _⟩ := (own_slice ho5); exact ⟨A, _, c, e⟩
  subst ev5
  have ho4 := ho4.keep0 fq5
  refine anyL_enter 8 11 (f := 65) (args := #[.slice A3 n3 c3]) (by kernel_rfl) rfl rfl (by rfl) (by go_simp) ?_
  refine (pclone_ev ((HA.out.2.2).keep0 (HB.out.1.trans hS0 (fun _ _ q => q))) (HN.out.2.2)).mono ?_
  rintro e wq6 ⟨v6, rfl, ho6, fq6⟩
  refine ⟨_, rfl, hS0.trans fq6 (fun _ _ q => q), ?_⟩
  (simp only [List.setIfInBounds_toArray, List.set_cons_zero, List.set_cons_succ])
  have hS0 := hS0.trans fq6 (fun _ _ q => q)
  obtain ⟨A6, n6, c6, ev6⟩ : ∃ A n c, v6 = .slice A n c := by obtain ⟨A, c, e, _⟩ := (own_slice ho6); exact ⟨A, _, c, e⟩
  subst ev6
  have ho4 := ho4.keep0 fq6
  have ho5 := ho5.keep0 fq6
  have hbx := HB.out.2.1.keep hS0 (fun q => q)
  have hbz := HB.out.2.2.1.keep hS0 (fun q => q)
  have hB4 : w.heap.size + 2 ≤ w.heap.size + 2 := Nat.le_refl _
  have ho4 := ho4.base (B' := w.heap.size + 2) (by have h5 := HB.out.2.2.2; exact h5)
  have ho5 := ho5.base (B' := w.heap.size + 2) (by have h5 := HB.out.2.2.2; have h6 := (HF4 : W0.heap.size ≤ wq4.heap.size); omega)
  have ho6 := ho6.base (B' := w.heap.size + 2) (by have h5 := HB.out.2.2.2; have h6 := (HF5 : W0.heap.size ≤ wq5.heap.size); omega)
  obtain ⟨W5, hW5⟩ : ∃ W, W = ((wq6.setCell ⟨w.heap.size, 3, none⟩ (.slice A4 n4 c4)).setCell ⟨w.heap.size, 4, none⟩ (.slice A5 n5 c5)).setCell ⟨w.heap.size, 10, none⟩ (.slice A6 n6 c6) := ⟨_, rfl⟩
  have HC := Lib.hid (cl_fin (HB.out.1.trans hS0 (fun _ _ q => q)) (Nat.le_refl _) hB4 hbx hbz ho4 ho5 ho6 hW5)
  obtain ⟨hb1, hb2, hb3⟩ := blk_three hbx (.slice A4 n4 c4) (.slice A5 n5 c5) (.slice A6 n6 c6)
  have hf0 := hbx.frozen 3
  have hf1 := hb1.frozen 4
  have hf2 := hb2.frozen 10
  have hc0 := cp_cell hbx 3 rfl
  have hc1 := cp_cell hb1 4 rfl
  have hc2 := cp_cell hb2 10 rfl
  clear ho4 ho5 ho6 fq4 fq5 fq6 hb1 hb2 hb3
  refine anyL_skip 10 (wq6.setCell ⟨w.heap.size, 3, none⟩ (.slice A4 n4 c4)) (by kernel_rfl) rfl rfl (by rfl) (by go_simp) (fun q => by cases q) ?_
  refine anyL_value 11 13 (.pointer (some ⟨w.heap.size, 4, none⟩)) (wq6.setCell ⟨w.heap.size, 3, none⟩ (.slice A4 n4 c4)) (by kernel_rfl) rfl rfl (by rfl) (by go_simp) (fun q => by cases q) ?_
  (simp only [List.setIfInBounds_toArray, List.set_cons_zero, List.set_cons_succ])
  refine anyL_skip 12 ((wq6.setCell ⟨w.heap.size, 3, none⟩ (.slice A4 n4 c4)).setCell ⟨w.heap.size, 4, none⟩ (.slice A5 n5 c5)) (by kernel_rfl) rfl rfl (by rfl) (by go_simp) (fun q => by cases q) ?_
  refine anyL_value 13 14 (.pointer (some ⟨w.heap.size, 10, none⟩)) ((wq6.setCell ⟨w.heap.size, 3, none⟩ (.slice A4 n4 c4)).setCell ⟨w.heap.size, 4, none⟩ (.slice A5 n5 c5)) (by kernel_rfl) rfl rfl (by rfl) (by go_simp) (fun q => by cases q) ?_
  (simp only [List.setIfInBounds_toArray, List.set_cons_zero, List.set_cons_succ])
  refine anyL_skip 14 (((wq6.setCell ⟨w.heap.size, 3, none⟩ (.slice A4 n4 c4)).setCell ⟨w.heap.size, 4, none⟩ (.slice A5 n5 c5)).setCell ⟨w.heap.size, 10, none⟩ (.slice A6 n6 c6)) (by kernel_rfl) rfl rfl (by rfl) (by go_simp) (fun q => by cases q) ?_
  refine anyL_done (by kernel_rfl) ?_ _
  rw [← hW5]
  clear hf0 hf1 hf2 hc0 hc1 hc2 hbx hbz hB4 HF4 HF5 hS0 hW5 HX HA HV
  go_wp2_with (first
    | (refine wpList_load_mid rfl 27 (.tmp 1) rfl w.heap.size 0 rfl (tkA t (.slice A4 n4 c4) (.slice A5 n5 c5) (.slice A6 n6 c6)).toList _ (blk_range HC.out.2.1) Try.underlying27 rfl infoTk ?_)
    | (refine wpList_store_mid rfl 27 (.tmp 2) (.tmp 15) rfl (w.heap.size + 1) 0 (tkA t (.slice A4 n4 c4) (.slice A5 n5 c5) (.slice A6 n6 c6)) rfl rfl (blk_there HC.out.2.2.1 (Nat.le_refl 11)) (infoTk' _ _ _ _) (tkA_one _ _ _ _ _ _ _ _ _ _) ?_))
  refine bodyPost_ret (results_cell_row rfl _ _ (w.heap.size + 1) 27 (tkA t (.slice A4 n4 c4) (.slice A5 n5 c5) (.slice A6 n6 c6)) (0, 0) _ rfl (blk_row HC.out.2.2.1 rfl) Try.underlying27 rfl (infoTk' _ _ _ _)) rfl ?_
  have fz := fr_cells (F := fun b => b = w.heap.size + 1) (b := w.heap.size + 1) (.inl rfl) (tkA t (.slice A4 n4 c4) (.slice A5 n5 c5) (.slice A6 n6 c6)).toList 0 _ (Fr.refl (fun b => b = w.heap.size + 1) W5)
  have o1 := HC.out.2.2.2.1.keep fz (fun b hb e => by have h5 := (HC.out.2.2.2.1.low hb).1; have e' : b = w.heap.size + 1 := e; omega)
  have o2 := HC.out.2.2.2.2.1.keep fz (fun b hb e => by have h5 := (HC.out.2.2.2.2.1.low hb).1; have e' : b = w.heap.size + 1 := e; omega)
  have o3 := HC.out.2.2.2.2.2.keep fz (fun b hb e => by have h5 := (HC.out.2.2.2.2.2.low hb).1; have e' : b = w.heap.size + 1 := e; omega)
  exact ⟨_, rfl, ⟨_, _, _, rfl, o1.base (Nat.le_add_right _ 2), o2.base (Nat.le_add_right _ 2), o3.base (Nat.le_add_right _ 2)⟩, fr_cells (.inr (Nat.le_succ _)) (tkA t (.slice A4 n4 c4) (.slice A5 n5 c5) (.slice A6 n6 c6)).toList 0 _ HC.out.1⟩
end Go.Proofs.Ytmopkfjnjbimnaa
