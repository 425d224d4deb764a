/- ticket's put, whole, many: parts that are put. -/
import Derived.Test.YtmopkfjnjbimnaaKqa
import Derived.Sort.Row
namespace Go.Proofs.Ytmopkfjnjbimnaa
open Go.RowKit

theorem setCell_self {w : World} {b o : Nat} {v : Value} (h : w.cell? ⟨b, o, none⟩ = some v) : w.setCell ⟨b, o, none⟩ v = w := by
  rw [Go.Sort.setCell_eq]
  have h2 : Go.Sort.mapBlock w b (·.setIfInBounds o v) = Go.Sort.mapBlock w b id := Go.Sort.mapBlock_congr w b _ _ (fun c e fr hc => by
    rw [cell_of_row w b o c e fr hc] at h
    apply Array.ext_getElem?
    intro j
    by_cases hj : o = j
    · subst hj
      have hlt : o < c.size := (Array.getElem?_eq_some_iff.1 h).1
      simp [Array.getElem?_setIfInBounds_self_of_lt hlt, h]
    · simp [Array.getElem?_setIfInBounds_ne hj])
  rw [h2]
  unfold Go.Sort.mapBlock
  have h3 : w.heap.modify b (Go.Sort.onCells id) = w.heap := by
    apply Array.ext_getElem?
    intro k
    rw [Array.getElem?_modify]
    split
    · cases hk : w.heap[k]? with
      | none => rfl
      | some x => cases x <;> rfl
    · rfl
  rw [h3]
/-- From w to w': only blocks from gW on have turned, and of those only bytes' and gW. -/
structure St (w w' : World) (gW : Nat) : Prop where
  fr : Fr (fun b => gW ≤ b) w w'
  keep : ∀ (g : Nat) (T : TypeId) (cs : Array Value), T ≠ 5 → g ≠ gW → Blk w g T cs → Blk w' g T cs
theorem St.refl (w : World) (gW : Nat) : St w w gW := ⟨Fr.refl _ _, fun _ _ _ _ _ h => h⟩
theorem St.trans {w w' w'' : World} {gW : Nat} (h : St w w' gW) (k : St w' w'' gW) : St w w'' gW := ⟨h.fr.trans k.fr (fun _ _ q => q), fun g T cs h1 h2 h3 => k.keep g T cs h1 h2 (h.keep g T cs h1 h2 h3)⟩
theorem St.of0 {w w' : World} {gW : Nat} (f : Fr (fun _ => False) w w') : St w w' gW := ⟨Fr.mono f (fun _ _ q => q.elim), fun _ _ _ _ _ h => h.keep f (fun q => q)⟩
theorem wrapI2 {z : Int} (h0 : -9223372036854775808 ≤ z) (h1 : z ≤ 9223372036854775807) : IntKind.i64.wrap z = z := by
  simp [IntKind.wrap, IntKind.signed, IntKind.bits]
  omega
theorem wi0 : IntKind.i64.wrap 0 = 0 := by decide +kernel
theorem wr3 (n : Nat) (h : n ≤ 9223372036854775807) : IntKind.u64.wrap (n : Int) = (n : Int) ∧ wrap64 (n : Int) = (n : Int) ∧ IntKind.i64.wrap (n : Int) = (n : Int) := ⟨wrapU_pos (by omega) (by omega), wrap64_in (by omega) (by omega), wrapI2 (by omega) (by omega)⟩
/-- The putter at gW has put l. -/
def WP (w : World) (gW : Nat) (l : List UInt8) : Prop := ∃ v, Pw.WrS w gW gW v (some l)
theorem WP.keep0 {w w' : World} {gW : Nat} {l : List UInt8} (h : WP w gW l) (f : Fr (fun _ => False) w w') : WP w' gW l := by
  obtain ⟨v, hv⟩ := h
  exact ⟨v, hv.keep f (fun _ _ q => q)⟩
theorem wp_puts {w w' : World} {gW : Nat} {v : Value} {l l' : List UInt8} {e : Ending} (h : Pw.WrS w gW gW v (some l)) (hp : Pw.Puts w gW gW v (some l') e w') : WP w' gW l' ∧ St w w' gW := by
  obtain ⟨_, v', h1, h2, _⟩ := hp
  refine ⟨⟨v', h1⟩, Fr.mono h2 (fun b hb q => ?_), fun g T cs hT hg hb => ?_⟩
  · rcases q with rfl | q
    · exact Nat.le_refl _
    · have ho := h.own
      obtain ⟨-, ⟨e1, -⟩ | ⟨g', c, cs, e1, h4, -⟩⟩ := ho
      · subst e1; cases q
      · subst e1
        injection q with q
        have q' : g' = b := q
        omega
  · refine hb.keep h2 (fun q => ?_)
    rcases q with rfl | q
    · exact hg rfl
    · have ho := h.own
      obtain ⟨-, ⟨e1, -⟩ | ⟨g', c, cs', e1, h4, h5, -⟩⟩ := ho
      · subst e1; cases q
      · subst e1
        injection q with q
        subst q
        exact hT (blk_apart hb h5)
set_option maxRecDepth 100000 in
theorem pput_any {w : World} {gW : Nat} {l : List UInt8} (h : WP w gW l) (n : Nat) (s : Int) (hn : n ≤ 18446744073709551615) (hs : numOk n s = true) (hb : l.length ≤ 100000) :
    Calls Try.prog 31 #[.pointer (some ⟨gW, 0, none⟩), .int .u64 (n : Nat), .int .i64 s] w fun e w' => e = .returned (.int .u64 (n : Nat)) ∧ WP w' gW (l ++ be n s.toNat) ∧ St w w' gW := by
  obtain ⟨v, hv⟩ := h
  have hp : putNum (some l) n s = some (l ++ be n s.toNat) := by unfold putNum; simp [hs]
  have H := Pw.number_puts hv n s hn (by unfold roomS; show l.length + 8 ≤ _; omega)
  rw [hp] at H
  have H1 := Lib.hid H
  have HV := Lib.hid hv
  clear H hp hv hs hn hb
  go_enter Try.func31, Try.ntmps31
  go_wp2_with fail
  refine H1.out.mono ?_
  rintro e w1 hq
  have HQ := Lib.hid (wp_puts HV.out hq)
  obtain ⟨rfl, -⟩ := hq
  go_wp2_with fail
  go_ret
  exact ⟨rfl, HQ.out⟩
set_option maxRecDepth 100000 in
theorem pwhole_u {w : World} {gW : Nat} {l : List UInt8} (h : WP w gW l) {b off n : Nat} {T : TypeId} {cs : Array Value} (hb : Blk w b T cs) (hT : T ≠ 5) (hg : b ≠ gW) (hc : cs[off]? = some (.int .u64 (n : Nat))) (s : Int) (hn : n ≤ 18446744073709551615) (hs : numOk n s = true) (hl : l.length ≤ 100000) :
    Calls Try.prog 66 #[.pointer (some ⟨b, off, none⟩), .int .i64 s, .func (.func 31) #[.pointer (some ⟨gW, 0, none⟩)] #[]] w fun e w' => e = .returned (.tuple #[]) ∧ WP w' gW (l ++ be n s.toNat) ∧ St w w' gW := by
  have H := Lib.hid (pput_any h n s (by omega) hs hl)
  have hx : w.cell? ⟨b, off, none⟩ = some (.int .u64 (n : Nat)) := cp_cell hb off hc
  have HB := Lib.hid (And.intro hb (And.intro hT (And.intro hg hc)))
  clear h hb hT hg hc hs hl hn
  go_enter Try.func66, Try.ntmps66
  go_wp2_with fail
  refine H.out.mono ?_
  rintro e w1 ⟨rfl, h1, h2⟩
  have hb2 := h2.keep b T cs HB.out.2.1 HB.out.2.2.1 HB.out.1
  have hy := cp_cell hb2 off HB.out.2.2.2
  have hf := hb2.frozen off
  have HW := Lib.hid (And.intro h1 h2)
  have HY := Lib.hid hy
  clear hb2 h1 h2 hx
  go_wp2_with fail
  go_end0
  rw [setCell_self HY.out]
  exact ⟨rfl, HW.out⟩
set_option maxRecDepth 100000 in
theorem pwhole_i {w : World} {gW : Nat} {l : List UInt8} (h : WP w gW l) {b off n : Nat} {T : TypeId} {cs : Array Value} (hb : Blk w b T cs) (hT : T ≠ 5) (hg : b ≠ gW) (hc : cs[off]? = some (.int .i64 (n : Nat))) (s : Int) (hn : n ≤ 9223372036854775807) (hs : numOk n s = true) (hl : l.length ≤ 100000) :
    Calls Try.prog 68 #[.pointer (some ⟨b, off, none⟩), .int .i64 s, .func (.func 31) #[.pointer (some ⟨gW, 0, none⟩)] #[]] w fun e w' => e = .returned (.tuple #[]) ∧ WP w' gW (l ++ be n s.toNat) ∧ St w w' gW := by
  have H := Lib.hid (pput_any h n s (by omega) hs hl)
  have hx : w.cell? ⟨b, off, none⟩ = some (.int .i64 (n : Nat)) := cp_cell hb off hc
  have HB := Lib.hid (And.intro hb (And.intro hT (And.intro hg hc)))
  obtain ⟨hcv, hcw, hcw2⟩ := wr3 n (by omega)
  clear h hb hT hg hc hs hl hn
  go_enter Try.func68, Try.ntmps68
  go_wp2_with fail
  refine H.out.mono ?_
  rintro e w1 ⟨rfl, h1, h2⟩
  have hb2 := h2.keep b T cs HB.out.2.1 HB.out.2.2.1 HB.out.1
  have hy := cp_cell hb2 off HB.out.2.2.2
  have hf := hb2.frozen off
  have HW := Lib.hid (And.intro h1 h2)
  have HY := Lib.hid hy
  clear hb2 h1 h2 hx
  go_wp2_with fail
  go_end0
  rw [setCell_self HY.out]
  exact ⟨rfl, HW.out⟩
set_option maxRecDepth 100000 in
theorem pwhole_l {w : World} {gW : Nat} {l : List UInt8} (h : WP w gW l) {b off n : Nat} {T : TypeId} {cs : Array Value} (hb : Blk w b T cs) (hT : T ≠ 5) (hg : b ≠ gW) (hc : cs[off]? = some (.int .i64 (n : Nat))) (s : Int) (hn : n ≤ 9223372036854775807) (hs : numOk n s = true) (hl : l.length ≤ 100000) :
    Calls Try.prog 69 #[.pointer (some ⟨b, off, none⟩), .int .i64 s, .func (.func 31) #[.pointer (some ⟨gW, 0, none⟩)] #[]] w fun e w' => e = .returned (.tuple #[]) ∧ WP w' gW (l ++ be n s.toNat) ∧ St w w' gW := by
  have H := Lib.hid (pput_any h n s (by omega) hs hl)
  have hx : w.cell? ⟨b, off, none⟩ = some (.int .i64 (n : Nat)) := cp_cell hb off hc
  have HB := Lib.hid (And.intro hb (And.intro hT (And.intro hg hc)))
  obtain ⟨hcv, hcw, hcw2⟩ := wr3 n (by omega)
  clear h hb hT hg hc hs hl hn
  go_enter Try.func69, Try.ntmps69
  go_wp2_with fail
  refine H.out.mono ?_
  rintro e w1 ⟨rfl, h1, h2⟩
  have hb2 := h2.keep b T cs HB.out.2.1 HB.out.2.2.1 HB.out.1
  have hy := cp_cell hb2 off HB.out.2.2.2
  have hf := hb2.frozen off
  have HW := Lib.hid (And.intro h1 h2)
  have HY := Lib.hid hy
  clear hb2 h1 h2 hx
  go_wp2_with fail
  go_end0
  rw [setCell_self HY.out]
  exact ⟨rfl, HW.out⟩
set_option maxRecDepth 100000 in
theorem pwhole_s {w : World} {gW : Nat} {l : List UInt8} (h : WP w gW l) {b off n : Nat} {T : TypeId} {cs : Array Value} (hb : Blk w b T cs) (hT : T ≠ 5) (hg : b ≠ gW) (hc : cs[off]? = some (.int .i64 (n : Nat))) (s : Int) (hn : n ≤ 9223372036854775807) (hs : numOk n s = true) (hl : l.length ≤ 100000) :
    Calls Try.prog 71 #[.pointer (some ⟨b, off, none⟩), .int .i64 s, .func (.func 31) #[.pointer (some ⟨gW, 0, none⟩)] #[]] w fun e w' => e = .returned (.tuple #[]) ∧ WP w' gW (l ++ be n s.toNat) ∧ St w w' gW := by
  have H := Lib.hid (pput_any h n s (by omega) hs hl)
  have hx : w.cell? ⟨b, off, none⟩ = some (.int .i64 (n : Nat)) := cp_cell hb off hc
  have HB := Lib.hid (And.intro hb (And.intro hT (And.intro hg hc)))
  obtain ⟨hcv, hcw, hcw2⟩ := wr3 n (by omega)
  clear h hb hT hg hc hs hl hn
  go_enter Try.func71, Try.ntmps71
  go_wp2_with fail
  refine H.out.mono ?_
  rintro e w1 ⟨rfl, h1, h2⟩
  have hb2 := h2.keep b T cs HB.out.2.1 HB.out.2.2.1 HB.out.1
  have hy := cp_cell hb2 off HB.out.2.2.2
  have hf := hb2.frozen off
  have HW := Lib.hid (And.intro h1 h2)
  have HY := Lib.hid hy
  clear hb2 h1 h2 hx
  go_wp2_with fail
  go_end0
  rw [setCell_self HY.out]
  exact ⟨rfl, HW.out⟩
theorem run_append_op {P : Program} {o : Oper} {a : Act} {w w' : World} {v : Value} (d s : Operand) (t t' : TypeId) (ho : o.op = .call { callee := .builtin .append, args := #[d, s], argTypes := #[t, t'] }) {dv sv : Value} (hd : a.eval d = dv) (hs : a.eval s = sv)
    (h : (Builtin.append_ #[t, t'] o.type #[dv, sv]).run P w = .ok v w') : (execOp a.eval o).run P w = .ok (.value v) w' := by
  unfold execOp
  simp only [ho, resolve, invoke, builtin, Sem.run_bind, Sem.run_pure, Result.andThen_ok, List.map_toArray, List.map_cons, List.map_nil, hd, hs, h]
theorem run_append_none {w : World} {t ty T : TypeId} {A : Option Addr} {n c : Nat} (ht : Try.prog.underlying t = some (.slice T)) (hi : ((Try.prog.info? T).map (·.size)).isSome = true) (hn : n ≤ c) (hA : ∀ a, A = some a → True) :
    (Builtin.append_ #[t, 3] ty #[.slice A n c, .int .i64 0]).run Try.prog w = .ok (.slice A n c) w := by
  have hint := Try.underlying3
  obtain ⟨i, hi'⟩ : ∃ i, Try.prog.info? T = some i := by
    cases h : Try.prog.info? T with
    | none => rw [h] at hi; cases hi
    | some i => exact ⟨i, rfl⟩
  have w0 : IntKind.i64.wrap 0 = 0 := by decide +kernel
  cases A <;> simp [Builtin.append_, run_underlying ht, run_underlying hint, sizeOf, typeInfo, hi', asInt, asIntOf, w0, hn, storeCells, Result.andThen]
set_option maxRecDepth 100000 in
theorem pmany_cp {w : World} {gW : Nat} {l : List UInt8} (h : WP w gW l) {b off n c : Nat} {A : Option Addr} {T : TypeId} {cs : Array Value} (hb : Blk w b T cs) (hT : T ≠ 5) (hg : b ≠ gW) (hc : cs[off]? = some (.slice A n c)) (hn : n ≤ 255) (hnc : n ≤ c) (hl : l.length ≤ 100000) :
    Calls Try.prog 70 #[.pointer (some ⟨b, off, none⟩), .func (.func 31) #[.pointer (some ⟨gW, 0, none⟩)] #[]] w fun e w' => e = .returned (.tuple #[]) ∧ WP w' gW (l ++ be n 1) ∧ St w w' gW := by
  have H := Lib.hid (pput_any h n 1 (by omega) (by unfold numOk; simp; omega) hl)
  have hx : w.cell? ⟨b, off, none⟩ = some (.slice A n c) := cp_cell hb off hc
  have HB := Lib.hid (And.intro hb (And.intro hT (And.intro hg hc)))
  obtain ⟨hcv, hcw, hcw2⟩ := wr3 n (by omega)
  have HN := Lib.hid hnc
  have HSB : Hid (wrap64 ((n : Int) - (n : Int)) = 0) := Lib.hid (by rw [Int.sub_self]; decide +kernel)
  clear h hb hT hg hc hl hn hnc
  go_enter Try.func70, Try.ntmps70
  go_wp2_with fail
  refine H.out.mono ?_
  rintro e w1 ⟨rfl, h1, h2⟩
  have hb2 := (h2.keep b T cs HB.out.2.1 HB.out.2.2.1 HB.out.1).keep ((Fr.refl (fun _ => False) w1).drew) (fun q => q)
  have HY2 := Lib.hid (cp_cell hb2 off HB.out.2.2.2)
  have hb1 := h2.keep b T cs HB.out.2.1 HB.out.2.2.1 HB.out.1
  have HY := Lib.hid (cp_cell hb1 off HB.out.2.2.2)
  have HZ := Lib.hid (hb1.frozen off)
  have HW := Lib.hid (And.intro (h1.keep0 ((Fr.refl (fun _ => False) w1).drew)) (h2.trans (St.of0 ((Fr.refl (fun _ => False) w1).drew))))
  clear hb1 hb2 h1 h2 hx
  go_wp2_with fail
  refine wp_region_held_drew (S := fun w' => w' = w1.drew) (by kernel_rfl) (rfl) (fun hS0 => ?_)
  refine anyH_take 0 13 (.pointer (some ⟨b, off, none⟩)) rfl rfl (by kernel_rfl) (by kernel_rfl) (by kernel_rfl) (fun _ _ _ h => h) (.inl ⟨by rfl, fun w'' hS => by go_simp⟩) hS0 ?_
  (simp only [List.setIfInBounds_toArray, List.set_cons_zero, List.set_cons_succ])
  refine anyH_take 1 14 (.pointer (some ⟨b, off, none⟩)) rfl rfl (by kernel_rfl) (by kernel_rfl) (by kernel_rfl) (fun _ _ _ h => h) (.inl ⟨by rfl, fun w'' hS => by go_simp⟩) hS0 ?_
  (simp only [List.setIfInBounds_toArray, List.set_cons_zero, List.set_cons_succ])
  refine anyH_take 2 15 (.pointer (some ⟨b, off, none⟩)) rfl rfl (by kernel_rfl) (by kernel_rfl) (by kernel_rfl) (fun _ _ _ h => h) (.inl ⟨by rfl, fun w'' hS => by go_simp⟩) hS0 ?_
  (simp only [List.setIfInBounds_toArray, List.set_cons_zero, List.set_cons_succ])
  refine anyH_take 3 16 (.slice A n c) rfl rfl (by kernel_rfl) (by kernel_rfl) (by kernel_rfl) (fun _ _ _ h => h) (.inl ⟨by rfl, fun w'' hS => by have q0 := HY.out; go_simp⟩) hS0 ?_
  (simp only [List.setIfInBounds_toArray, List.set_cons_zero, List.set_cons_succ])
  refine anyH_take 4 17 (.int .i64 (n : Nat)) rfl rfl (by kernel_rfl) (by kernel_rfl) (by kernel_rfl) (fun _ _ _ h => h) (.inl ⟨by rfl, fun w'' hS => by go_simp⟩) hS0 ?_
  (simp only [List.setIfInBounds_toArray, List.set_cons_zero, List.set_cons_succ])
  refine anyH_take 5 18 (.pointer (some ⟨b, off, none⟩)) rfl rfl (by kernel_rfl) (by kernel_rfl) (by kernel_rfl) (fun _ _ _ h => h) (.inl ⟨by rfl, fun w'' hS => by go_simp⟩) hS0 ?_
  (simp only [List.setIfInBounds_toArray, List.set_cons_zero, List.set_cons_succ])
  refine anyH_take 6 19 (.pointer (some ⟨b, off, none⟩)) rfl rfl (by kernel_rfl) (by kernel_rfl) (by kernel_rfl) (fun _ _ _ h => h) (.inl ⟨by rfl, fun w'' hS => by go_simp⟩) hS0 ?_
  (simp only [List.setIfInBounds_toArray, List.set_cons_zero, List.set_cons_succ])
  refine anyH_take 7 20 (.slice A n c) rfl rfl (by kernel_rfl) (by kernel_rfl) (by kernel_rfl) (fun _ _ _ h => h) (.inl ⟨by rfl, fun w'' hS => by have q0 := HY.out; go_simp⟩) hS0 ?_
  (simp only [List.setIfInBounds_toArray, List.set_cons_zero, List.set_cons_succ])
  refine anyH_take 8 21 (.int .i64 (n : Nat)) rfl rfl (by kernel_rfl) (by kernel_rfl) (by kernel_rfl) (fun _ _ _ h => h) (.inl ⟨by rfl, fun w'' hS => by go_simp⟩) hS0 ?_
  (simp only [List.setIfInBounds_toArray, List.set_cons_zero, List.set_cons_succ])
  refine anyH_take 9 22 (.int .i64 0) rfl rfl (by kernel_rfl) (by kernel_rfl) (by kernel_rfl) (fun _ _ _ h => h) (.inl ⟨by rfl, fun w'' hS => by have q0 := HSB.out; have q1 := wi0; go_simp⟩) hS0 ?_
  (simp only [List.setIfInBounds_toArray, List.set_cons_zero, List.set_cons_succ])
  refine anyH_take 10 23 (.slice A n c) rfl rfl (by kernel_rfl) (by kernel_rfl) (by kernel_rfl) (fun _ _ _ h => h) (.inl ⟨by rfl, fun w'' hS => run_append_op (.tmp 16) (.tmp 22) 23 3 rfl rfl rfl (run_append_none Try.underlying23 (by kernel_rfl) HN.out (fun _ _ => trivial))⟩) hS0 ?_
  (simp only [List.setIfInBounds_toArray, List.set_cons_zero, List.set_cons_succ])
  refine anyH_take 11 24 (.pointer (some ⟨b, off, none⟩)) rfl rfl (by kernel_rfl) (by kernel_rfl) (by kernel_rfl) (fun _ _ _ h => h) (.inl ⟨by rfl, fun w'' hS => by go_simp⟩) hS0 ?_
  (simp only [List.setIfInBounds_toArray, List.set_cons_zero, List.set_cons_succ])
  refine anyH_skip 12 w1.drew (by kernel_rfl) rfl rfl (by rfl) (by have q1 := HZ.out; have q2 := HY.out; have q3 := setCell_self HY2.out; go_simp) (rfl) ?_
  refine wpAnyH_done (by kernel_rfl) ?_ _
  clear hS0
  go_wp2_with fail
  go_end0
  exact ⟨rfl, HW.out⟩
set_option maxRecDepth 100000 in
theorem pmany_tx {w : World} {gW : Nat} {l : List UInt8} (h : WP w gW l) {b off n c : Nat} {A : Option Addr} {T : TypeId} {cs : Array Value} (hb : Blk w b T cs) (hT : T ≠ 5) (hg : b ≠ gW) (hc : cs[off]? = some (.slice A n c)) (hn : n ≤ 255) (hnc : n ≤ c) (hl : l.length ≤ 100000) :
    Calls Try.prog 72 #[.pointer (some ⟨b, off, none⟩), .func (.func 31) #[.pointer (some ⟨gW, 0, none⟩)] #[]] w fun e w' => e = .returned (.tuple #[]) ∧ WP w' gW (l ++ be n 1) ∧ St w w' gW := by
  have H := Lib.hid (pput_any h n 1 (by omega) (by unfold numOk; simp; omega) hl)
  have hx : w.cell? ⟨b, off, none⟩ = some (.slice A n c) := cp_cell hb off hc
  have HB := Lib.hid (And.intro hb (And.intro hT (And.intro hg hc)))
  obtain ⟨hcv, hcw, hcw2⟩ := wr3 n (by omega)
  have HN := Lib.hid hnc
  have HSB : Hid (wrap64 ((n : Int) - (n : Int)) = 0) := Lib.hid (by rw [Int.sub_self]; decide +kernel)
  clear h hb hT hg hc hl hn hnc
  go_enter Try.func72, Try.ntmps72
  go_wp2_with fail
  refine H.out.mono ?_
  rintro e w1 ⟨rfl, h1, h2⟩
  have hb2 := (h2.keep b T cs HB.out.2.1 HB.out.2.2.1 HB.out.1).keep ((Fr.refl (fun _ => False) w1).drew) (fun q => q)
  have HY2 := Lib.hid (cp_cell hb2 off HB.out.2.2.2)
  have hb1 := h2.keep b T cs HB.out.2.1 HB.out.2.2.1 HB.out.1
  have HY := Lib.hid (cp_cell hb1 off HB.out.2.2.2)
  have HZ := Lib.hid (hb1.frozen off)
  have HW := Lib.hid (And.intro (h1.keep0 ((Fr.refl (fun _ => False) w1).drew)) (h2.trans (St.of0 ((Fr.refl (fun _ => False) w1).drew))))
  clear hb1 hb2 h1 h2 hx
  go_wp2_with fail
  refine wp_region_held_drew (S := fun w' => w' = w1.drew) (by kernel_rfl) (rfl) (fun hS0 => ?_)
  refine anyH_take 0 13 (.pointer (some ⟨b, off, none⟩)) rfl rfl (by kernel_rfl) (by kernel_rfl) (by kernel_rfl) (fun _ _ _ h => h) (.inl ⟨by rfl, fun w'' hS => by go_simp⟩) hS0 ?_
  (simp only [List.setIfInBounds_toArray, List.set_cons_zero, List.set_cons_succ])
  refine anyH_take 1 14 (.pointer (some ⟨b, off, none⟩)) rfl rfl (by kernel_rfl) (by kernel_rfl) (by kernel_rfl) (fun _ _ _ h => h) (.inl ⟨by rfl, fun w'' hS => by go_simp⟩) hS0 ?_
  (simp only [List.setIfInBounds_toArray, List.set_cons_zero, List.set_cons_succ])
  refine anyH_take 2 15 (.pointer (some ⟨b, off, none⟩)) rfl rfl (by kernel_rfl) (by kernel_rfl) (by kernel_rfl) (fun _ _ _ h => h) (.inl ⟨by rfl, fun w'' hS => by go_simp⟩) hS0 ?_
  (simp only [List.setIfInBounds_toArray, List.set_cons_zero, List.set_cons_succ])
  refine anyH_take 3 16 (.slice A n c) rfl rfl (by kernel_rfl) (by kernel_rfl) (by kernel_rfl) (fun _ _ _ h => h) (.inl ⟨by rfl, fun w'' hS => by have q0 := HY.out; go_simp⟩) hS0 ?_
  (simp only [List.setIfInBounds_toArray, List.set_cons_zero, List.set_cons_succ])
  refine anyH_take 4 17 (.int .i64 (n : Nat)) rfl rfl (by kernel_rfl) (by kernel_rfl) (by kernel_rfl) (fun _ _ _ h => h) (.inl ⟨by rfl, fun w'' hS => by go_simp⟩) hS0 ?_
  (simp only [List.setIfInBounds_toArray, List.set_cons_zero, List.set_cons_succ])
  refine anyH_take 5 18 (.pointer (some ⟨b, off, none⟩)) rfl rfl (by kernel_rfl) (by kernel_rfl) (by kernel_rfl) (fun _ _ _ h => h) (.inl ⟨by rfl, fun w'' hS => by go_simp⟩) hS0 ?_
  (simp only [List.setIfInBounds_toArray, List.set_cons_zero, List.set_cons_succ])
  refine anyH_take 6 19 (.pointer (some ⟨b, off, none⟩)) rfl rfl (by kernel_rfl) (by kernel_rfl) (by kernel_rfl) (fun _ _ _ h => h) (.inl ⟨by rfl, fun w'' hS => by go_simp⟩) hS0 ?_
  (simp only [List.setIfInBounds_toArray, List.set_cons_zero, List.set_cons_succ])
  refine anyH_take 7 20 (.slice A n c) rfl rfl (by kernel_rfl) (by kernel_rfl) (by kernel_rfl) (fun _ _ _ h => h) (.inl ⟨by rfl, fun w'' hS => by have q0 := HY.out; go_simp⟩) hS0 ?_
  (simp only [List.setIfInBounds_toArray, List.set_cons_zero, List.set_cons_succ])
  refine anyH_take 8 21 (.int .i64 (n : Nat)) rfl rfl (by kernel_rfl) (by kernel_rfl) (by kernel_rfl) (fun _ _ _ h => h) (.inl ⟨by rfl, fun w'' hS => by go_simp⟩) hS0 ?_
  (simp only [List.setIfInBounds_toArray, List.set_cons_zero, List.set_cons_succ])
  refine anyH_take 9 22 (.int .i64 0) rfl rfl (by kernel_rfl) (by kernel_rfl) (by kernel_rfl) (fun _ _ _ h => h) (.inl ⟨by rfl, fun w'' hS => by have q0 := HSB.out; have q1 := wi0; go_simp⟩) hS0 ?_
  (simp only [List.setIfInBounds_toArray, List.set_cons_zero, List.set_cons_succ])
  refine anyH_take 10 23 (.slice A n c) rfl rfl (by kernel_rfl) (by kernel_rfl) (by kernel_rfl) (fun _ _ _ h => h) (.inl ⟨by rfl, fun w'' hS => run_append_op (.tmp 16) (.tmp 22) 24 3 rfl rfl rfl (run_append_none Try.underlying24 (by kernel_rfl) HN.out (fun _ _ => trivial))⟩) hS0 ?_
  (simp only [List.setIfInBounds_toArray, List.set_cons_zero, List.set_cons_succ])
  refine anyH_take 11 24 (.pointer (some ⟨b, off, none⟩)) rfl rfl (by kernel_rfl) (by kernel_rfl) (by kernel_rfl) (fun _ _ _ h => h) (.inl ⟨by rfl, fun w'' hS => by go_simp⟩) hS0 ?_
  (simp only [List.setIfInBounds_toArray, List.set_cons_zero, List.set_cons_succ])
  refine anyH_skip 12 w1.drew (by kernel_rfl) rfl rfl (by rfl) (by have q1 := HZ.out; have q2 := HY.out; have q3 := setCell_self HY2.out; go_simp) (rfl) ?_
  refine wpAnyH_done (by kernel_rfl) ?_ _
  clear hS0
  go_wp2_with fail
  go_end0
  exact ⟨rfl, HW.out⟩
set_option maxRecDepth 100000 in
theorem pmany_ev {w : World} {gW : Nat} {l : List UInt8} (h : WP w gW l) {b off n c : Nat} {A : Option Addr} {T : TypeId} {cs : Array Value} (hb : Blk w b T cs) (hT : T ≠ 5) (hg : b ≠ gW) (hc : cs[off]? = some (.slice A n c)) (hn : n ≤ 255) (hnc : n ≤ c) (hl : l.length ≤ 100000) :
    Calls Try.prog 73 #[.pointer (some ⟨b, off, none⟩), .func (.func 31) #[.pointer (some ⟨gW, 0, none⟩)] #[]] w fun e w' => e = .returned (.tuple #[]) ∧ WP w' gW (l ++ be n 1) ∧ St w w' gW := by
  have H := Lib.hid (pput_any h n 1 (by omega) (by unfold numOk; simp; omega) hl)
  have hx : w.cell? ⟨b, off, none⟩ = some (.slice A n c) := cp_cell hb off hc
  have HB := Lib.hid (And.intro hb (And.intro hT (And.intro hg hc)))
  obtain ⟨hcv, hcw, hcw2⟩ := wr3 n (by omega)
  have HN := Lib.hid hnc
  have HSB : Hid (wrap64 ((n : Int) - (n : Int)) = 0) := Lib.hid (by rw [Int.sub_self]; decide +kernel)
  clear h hb hT hg hc hl hn hnc
  go_enter Try.func73, Try.ntmps73
  go_wp2_with fail
  refine H.out.mono ?_
  rintro e w1 ⟨rfl, h1, h2⟩
  have hb2 := (h2.keep b T cs HB.out.2.1 HB.out.2.2.1 HB.out.1).keep ((Fr.refl (fun _ => False) w1).drew) (fun q => q)
  have HY2 := Lib.hid (cp_cell hb2 off HB.out.2.2.2)
  have hb1 := h2.keep b T cs HB.out.2.1 HB.out.2.2.1 HB.out.1
  have HY := Lib.hid (cp_cell hb1 off HB.out.2.2.2)
  have HZ := Lib.hid (hb1.frozen off)
  have HW := Lib.hid (And.intro (h1.keep0 ((Fr.refl (fun _ => False) w1).drew)) (h2.trans (St.of0 ((Fr.refl (fun _ => False) w1).drew))))
  clear hb1 hb2 h1 h2 hx
  go_wp2_with fail
  refine wp_region_held_drew (S := fun w' => w' = w1.drew) (by kernel_rfl) (rfl) (fun hS0 => ?_)
  refine anyH_take 0 13 (.pointer (some ⟨b, off, none⟩)) rfl rfl (by kernel_rfl) (by kernel_rfl) (by kernel_rfl) (fun _ _ _ h => h) (.inl ⟨by rfl, fun w'' hS => by go_simp⟩) hS0 ?_
  (simp only [List.setIfInBounds_toArray, List.set_cons_zero, List.set_cons_succ])
  refine anyH_take 1 14 (.pointer (some ⟨b, off, none⟩)) rfl rfl (by kernel_rfl) (by kernel_rfl) (by kernel_rfl) (fun _ _ _ h => h) (.inl ⟨by rfl, fun w'' hS => by go_simp⟩) hS0 ?_
  (simp only [List.setIfInBounds_toArray, List.set_cons_zero, List.set_cons_succ])
  refine anyH_take 2 15 (.pointer (some ⟨b, off, none⟩)) rfl rfl (by kernel_rfl) (by kernel_rfl) (by kernel_rfl) (fun _ _ _ h => h) (.inl ⟨by rfl, fun w'' hS => by go_simp⟩) hS0 ?_
  (simp only [List.setIfInBounds_toArray, List.set_cons_zero, List.set_cons_succ])
  refine anyH_take 3 16 (.slice A n c) rfl rfl (by kernel_rfl) (by kernel_rfl) (by kernel_rfl) (fun _ _ _ h => h) (.inl ⟨by rfl, fun w'' hS => by have q0 := HY.out; go_simp⟩) hS0 ?_
  (simp only [List.setIfInBounds_toArray, List.set_cons_zero, List.set_cons_succ])
  refine anyH_take 4 17 (.int .i64 (n : Nat)) rfl rfl (by kernel_rfl) (by kernel_rfl) (by kernel_rfl) (fun _ _ _ h => h) (.inl ⟨by rfl, fun w'' hS => by go_simp⟩) hS0 ?_
  (simp only [List.setIfInBounds_toArray, List.set_cons_zero, List.set_cons_succ])
  refine anyH_take 5 18 (.pointer (some ⟨b, off, none⟩)) rfl rfl (by kernel_rfl) (by kernel_rfl) (by kernel_rfl) (fun _ _ _ h => h) (.inl ⟨by rfl, fun w'' hS => by go_simp⟩) hS0 ?_
  (simp only [List.setIfInBounds_toArray, List.set_cons_zero, List.set_cons_succ])
  refine anyH_take 6 19 (.pointer (some ⟨b, off, none⟩)) rfl rfl (by kernel_rfl) (by kernel_rfl) (by kernel_rfl) (fun _ _ _ h => h) (.inl ⟨by rfl, fun w'' hS => by go_simp⟩) hS0 ?_
  (simp only [List.setIfInBounds_toArray, List.set_cons_zero, List.set_cons_succ])
  refine anyH_take 7 20 (.slice A n c) rfl rfl (by kernel_rfl) (by kernel_rfl) (by kernel_rfl) (fun _ _ _ h => h) (.inl ⟨by rfl, fun w'' hS => by have q0 := HY.out; go_simp⟩) hS0 ?_
  (simp only [List.setIfInBounds_toArray, List.set_cons_zero, List.set_cons_succ])
  refine anyH_take 8 21 (.int .i64 (n : Nat)) rfl rfl (by kernel_rfl) (by kernel_rfl) (by kernel_rfl) (fun _ _ _ h => h) (.inl ⟨by rfl, fun w'' hS => by go_simp⟩) hS0 ?_
  (simp only [List.setIfInBounds_toArray, List.set_cons_zero, List.set_cons_succ])
  refine anyH_take 9 22 (.int .i64 0) rfl rfl (by kernel_rfl) (by kernel_rfl) (by kernel_rfl) (fun _ _ _ h => h) (.inl ⟨by rfl, fun w'' hS => by have q0 := HSB.out; have q1 := wi0; go_simp⟩) hS0 ?_
  (simp only [List.setIfInBounds_toArray, List.set_cons_zero, List.set_cons_succ])
  refine anyH_take 10 23 (.slice A n c) rfl rfl (by kernel_rfl) (by kernel_rfl) (by kernel_rfl) (fun _ _ _ h => h) (.inl ⟨by rfl, fun w'' hS => run_append_op (.tmp 16) (.tmp 22) 25 3 rfl rfl rfl (run_append_none Try.underlying25 (by kernel_rfl) HN.out (fun _ _ => trivial))⟩) hS0 ?_
  (simp only [List.setIfInBounds_toArray, List.set_cons_zero, List.set_cons_succ])
  refine anyH_take 11 24 (.pointer (some ⟨b, off, none⟩)) rfl rfl (by kernel_rfl) (by kernel_rfl) (by kernel_rfl) (fun _ _ _ h => h) (.inl ⟨by rfl, fun w'' hS => by go_simp⟩) hS0 ?_
  (simp only [List.setIfInBounds_toArray, List.set_cons_zero, List.set_cons_succ])
  refine anyH_skip 12 w1.drew (by kernel_rfl) rfl rfl (by rfl) (by have q1 := HZ.out; have q2 := HY.out; have q3 := setCell_self HY2.out; go_simp) (rfl) ?_
  refine wpAnyH_done (by kernel_rfl) ?_ _
  clear hS0
  go_wp2_with fail
  go_end0
  exact ⟨rfl, HW.out⟩
end Go.Proofs.Ytmopkfjnjbimnaa
