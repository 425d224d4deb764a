/- Deal of the landed code: the shares rounded down, then one cent each to those whom the heap gives. -/
import Derived.Test.YtfonchobolhkoaaDoorFhv
import Derived.Test.YtfonchobolhkoaaDoorFdv
import Derived.Test.YtfonchobolhkoaaDoorFl5
namespace Go.Proofs.YtfonchobolhkoaaDoor
open Go.RowKit

theorem field_ls (a b : Int) (w : World) : Sem.run Tryd.prog (Instr.field 58 (.agg #[.int .i64 a, .int .u64 b]) 0) w = .ok (.int .i64 a) w := by kernel_rfl
set_option maxRecDepth 100000 in
set_option maxHeartbeats 1000000 in
theorem next_any {w0 w : World} {p n : Nat} {l : List (Nat × Nat)} (ha : AtH w0 p w l) (hp : HpF lossB (fun k => l.getD k (0, 0)) l.length) (hn : l.length = n + 1) :
    Calls Tryd.prog 30 #[.pointer (some ⟨p, 0, none⟩)] w fun e w' => ∃ x l', e = .returned (.int .i64 (x.2 : Nat)) ∧ AtH w0 p w' l' ∧ (x :: l').Perm l ∧ (∀ y ∈ l, lossB y x = false) ∧ HpF lossB (fun k => l'.getD k (0, 0)) l'.length := by
  have H := Lib.hid (hpop_any lossB_ok (heapv w0 p) hn ha.1 ha hp)
  unfold heapP at H
  have hta := fun (v : Value) W => tassert_ls v W
  clear ha hp hn
  go_enter Tryd.func30, Tryd.ntmps30
  go_wp2_with fail
  refine H.out.mono ?_
  rintro e w1 ⟨x, l', rfl, h1, h2, h3, h4⟩
  have HR := Lib.hid (And.intro h1 (And.intro h2 (And.intro h3 h4)))
  have ht := hta (.agg #[lsA x, lsB x]) w1
  clear h1 h2 h3 h4 H hta
  unfold encL
  unfold lsA lsB at ht ⊢
  obtain ⟨x1, x2⟩ := x
  have hfd := field_ls (x2 : Int) (x1 : Int) w1
  go_wp2_with fail
  go_ret
  exact ⟨(x1, x2), l', rfl, HR.out⟩
/-- Where Deal stands in memory: the shares' row, the block gs; the heap's variable, the block p behind it. -/
structure DlV (w wr : World) (gs p m : Nat) (L : List Int) (h : List (Nat × Nat)) : Prop where
  row : RowI wr gs (.slice (some ⟨gs, 0, none⟩) m m) L
  len : L.length = m
  hp : AtH wr p wr h
  heap : HpF lossB (fun k => h.getD k (0, 0)) h.length
  gp : gs < p
  lo : w.heap.size ≤ gs
  fr : Fr (fun _ => False) w wr
theorem AtH.base {w0 W : World} {p : Nat} {l : List (Nat × Nat)} (h : AtH w0 p W l) : AtH W p W l := by
  obtain ⟨h0, v, h1, h2, h3, _⟩ := h
  exact ⟨h0, v, h1, h2, h3, Fr.refl _ _⟩
theorem AtH.fr {w0 W : World} {p : Nat} {l : List (Nat × Nat)} (h : AtH w0 p W l) : Fr (fun k => p ≤ k) w0 W := by
  obtain ⟨_, _, _, _, _, h4⟩ := h
  exact h4
theorem DlV.keep {w wr w' : World} {gs p m : Nat} {L : List Int} {h : List (Nat × Nat)} (d : DlV w wr gs p m L h) (f : Fr (fun _ => False) wr w') : DlV w w' gs p m L h :=
  ⟨d.row.keep0 f, d.len, (d.hp.keep f).base, d.heap, d.gp, d.lo, d.fr.trans f (fun _ _ q => q)⟩
/-- The heap has been changed. -/
theorem DlV.heapTo {w wr w' : World} {gs p m : Nat} {L : List Int} {h h' : List (Nat × Nat)} (d : DlV w wr gs p m L h) (ha : AtH wr p w' h') (hh : HpF lossB (fun k => h'.getD k (0, 0)) h'.length) : DlV w w' gs p m L h' :=
  ⟨d.row.keep ha.fr (fun k hk q => by
    have hk' : some gs = some k := hk
    injection hk' with hk'
    have := d.gp
    omega), d.len, ha.base, hh, d.gp, d.lo, d.fr.trans ha.fr (fun i hi q => by have := d.gp; have := d.lo; omega)⟩
/-- One share is written. -/
theorem DlV.set {w wr : World} {gs p m i : Nat} {L : List Int} {h : List (Nat × Nat)} (d : DlV w wr gs p m L h) (hi : i < m) (z : Int) : DlV w (wr.setCell ⟨gs, i, none⟩ (.int .i64 z)) gs p m (L.set i z) h := by
  have f : Fr (fun k => k = gs) wr (wr.setCell ⟨gs, i, none⟩ (.int .i64 z)) := (Fr.refl (fun k => k = gs) wr).setCell (p := ⟨gs, i, none⟩) (.inl rfl) _
  obtain ⟨h0, v, h1, h2, h3, _⟩ := d.hp
  have hgp := d.gp
  have hpl := World.block_lt_of_cell? wr _ h1
  have hne : ¬ p = gs := by omega
  refine ⟨d.row.set (by rw [d.len]; exact hi) z, by rw [List.length_set, d.len], ⟨h0, v, (f.cell hpl hne).trans h1, (f.frozen hpl hne).trans h2, h3.keep f (fun k hk q => by have := h3.low hk; omega), Fr.refl _ _⟩, d.heap, hgp, d.lo, d.fr.setCell (p := ⟨gs, i, none⟩) (.inr d.lo) _⟩
theorem shares_set {qn : List Nat} {k m x : Nat} (hk : k < m) (hx : qn[k]? = some x) : (upI (qn.take k) ++ List.replicate (m - k) (0 : Int)).set k (x : Int) = upI (qn.take (k + 1)) ++ List.replicate (m - (k + 1)) 0 := by
  have hl : (upI (qn.take k)).length = k := by
    have := (List.getElem?_eq_some_iff.1 hx).1
    simp [upI]
    omega
  rw [List.set_append_right _ _ (by omega), hl, Nat.sub_self, show m - k = (m - (k + 1)) + 1 by omega, List.replicate_succ]
  have e : qn.take (k + 1) = qn.take k ++ [x] := by rw [List.take_add_one, hx]; rfl
  rw [e]
  simp [upI]
theorem zip_snoc {rn : List Nat} {k r : Nat} (hr : rn[k]? = some r) : (rn.take (k + 1)).zipIdx = (rn.take k).zipIdx ++ [(r, k)] := by
  have hl : (rn.take k).length = k := by
    have := (List.getElem?_eq_some_iff.1 hr).1
    simp
    omega
  have e : rn.take (k + 1) = rn.take k ++ [r] := by rw [List.take_add_one, hr]; rfl
  rw [e, List.zipIdx_append, hl]
  simp
theorem heap_some {l : List Nat} {T : List Bool} {h : List (Nat × Nat)} (s : HeapSt l T h) (hc : T.count true < l.length) : ∃ n, h.length = n + 1 := by
  obtain ⟨i, hi⟩ := exists_false T (by rw [s.len]; exact hc)
  have hil : i < l.length := by rw [← s.len]; exact (List.getElem?_eq_some_iff.1 hi).1
  have hm : (l[i], i) ∈ h := (s.mem (l[i], i)).2 ⟨hi, List.getElem?_eq_getElem hil⟩
  exact ⟨h.length - 1, by have := List.length_pos_of_mem hm; omega⟩
end Go.Proofs.YtfonchobolhkoaaDoor
