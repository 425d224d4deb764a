/- Steps and lives that came in, opened; couponlaw04.few. -/
import Derived.Test.YtobnfadcffhfdaaVle
namespace Go.Proofs.Ytobnfadcffhfdaa
open Go.ChangeShapes Go.WideShapes Go.ChangeAt Go.RowKit

/-- A step: its kind, its number, its leaves, its picks. -/
structure StepD where
  k : Int
  n : Int
  lv : Value
  ls : List Leaf
  pv : Value
  ps : List Int
structure StepAt (w : World) (b off : Nat) (x : StepD) : Prop where
  c0 : w.cell? ⟨b, off, none⟩ = some (.int .i64 x.k)
  c1 : w.cell? ⟨b, off + 1, none⟩ = some (.int .i64 x.n)
  c2 : w.cell? ⟨b, off + 2, none⟩ = some x.lv
  c3 : w.cell? ⟨b, off + 3, none⟩ = some x.pv
  n1 : x.n ≤ 9223372036854775807
  l : LvV w x.lv x.ls
  p : IntsAt w x.pv x.ps
  pl : ∀ b, x.pv.ownBlock = some b → 0 < x.ps.length → b < w.heap.size
def StpsAt (w : World) (b off : Nat) (xs : List StepD) : Prop := ∀ (i : Nat) (x : StepD), xs[i]? = some x → StepAt w b (off + i * 4) x
def StpV (w : World) (v : Value) (xs : List StepD) : Prop := ∃ A cap, v = .slice A xs.length cap ∧ xs.length ≤ maxLen ∧ (0 < xs.length → ∃ b off, A = some ⟨b, off, none⟩ ∧ StpsAt w b off xs)
/-- What lies below a block is as it was, where only blocks from it on were written. -/
theorem old_cell {w w' : World} {B : Nat} {a : Addr} {v : Value} (hB : w.heap.size ≤ B) (f : Fr (fun b => B ≤ b) w w') (h : w.cell? a = some v) : w'.cell? a = some v := by
  have hl := World.block_lt_of_cell? w _ h
  exact (f.cell hl (fun q => by omega)).trans h
theorem Rd.old {w w' : World} {B : Nat} {A : Option Addr} {n : Nat} {l : List UInt8} (h : Rd w A n l) (hB : w.heap.size ≤ B) (f : Fr (fun b => B ≤ b) w w') : Rd w' A n l := by
  rcases Nat.eq_zero_or_pos n with rfl | hp
  · exact ⟨h.1, fun hn => absurd hn (by omega)⟩
  · exact h.keep f (fun ad e q => by
      obtain ⟨ad', e', hlt⟩ := h.lt hp
      rw [e] at e'
      injection e' with e'
      subst e'
      omega)
theorem LvV.old {w w' : World} {B : Nat} {v : Value} {xs : List Leaf} (h : LvV w v xs) (hB : w.heap.size ≤ B) (f : Fr (fun b => B ≤ b) w w') : LvV w' v xs := by
  obtain ⟨A, cap, e, h1, h2, h3⟩ := h
  refine ⟨A, cap, e, h1, h2, fun q => ?_⟩
  obtain ⟨b, off, e1, hs⟩ := h3 q
  refine ⟨b, off, e1, fun i x hx => ?_⟩
  obtain ⟨k1, A', c', k2, k3, k4⟩ := hs i x hx
  exact ⟨old_cell hB f k1, A', c', old_cell hB f k2, k3.old hB f, k4⟩
theorem IntsAt.old {w w' : World} {B : Nat} {v : Value} {zs : List Int} (h : IntsAt w v zs) (hB : w.heap.size ≤ B) (f : Fr (fun b => B ≤ b) w w') : IntsAt w' v zs := by
  obtain ⟨A, c, e, h1, h2⟩ := h
  refine ⟨A, c, e, h1, fun q => ?_⟩
  obtain ⟨b, off, e1, hs⟩ := h2 q
  exact ⟨b, off, e1, fun i z hi => old_cell hB f (hs i z hi)⟩
theorem StepAt.old {w w' : World} {B b off : Nat} {x : StepD} (h : StepAt w b off x) (hB : w.heap.size ≤ B) (f : Fr (fun b => B ≤ b) w w') : StepAt w' b off x :=
  ⟨old_cell hB f h.c0, old_cell hB f h.c1, old_cell hB f h.c2, old_cell hB f h.c3, h.n1, h.l.old hB f, h.p.old hB f, fun b hb q => Nat.lt_of_lt_of_le (h.pl b hb q) f.size⟩
theorem StpV.old {w w' : World} {B : Nat} {v : Value} {xs : List StepD} (h : StpV w v xs) (hB : w.heap.size ≤ B) (f : Fr (fun b => B ≤ b) w w') : StpV w' v xs := by
  obtain ⟨A, cap, e, h1, h2⟩ := h
  refine ⟨A, cap, e, h1, fun q => ?_⟩
  obtain ⟨b, off, e1, hs⟩ := h2 q
  exact ⟨b, off, e1, fun i x hi => (hs i x hi).old hB f⟩

theorem cellsStep : Try.prog.cellsOf 91 = 4 := by kernel_rfl
theorem cellsLvs : Try.prog.cellsOf 22 = 1 := by kernel_rfl
theorem cellsPks : Try.prog.cellsOf 42 = 1 := by kernel_rfl
theorem undStep : Try.prog.underlying 91 = some (.struct #[⟨"Kind", 3, 0, false, "", "", 0⟩, ⟨"N", 3, 1, false, "", "", 8⟩, ⟨"Leaves", 22, 2, false, "", "", 16⟩, ⟨"Picks", 42, 3, false, "", "", 40⟩]) := by kernel_rfl
section
variable {H : Type} {enc : TypeId × Value → H} {w : World}
theorem open_step {b off : Nat} {fuel : Nat} {cs : List Value} {x : DataW H × List MemPlace} (hat : ∀ j, j < 4 → w.cell? ⟨b, off + j, none⟩ = cs[j]?) (h : DataW.trod enc Try.prog w 0 (fun _ => true) true fuel 91 cs = some x) : ∃ p : StepD, StepAt w b off p := by
  obtain ⟨y0, y1, y2, y3, n, _, hlen, t0, t1, t2, t3⟩ := Joins.trod_struct4 undStep h
  simp only [cells3, cellsLvs, cellsPks] at t0 t1 t2 t3
  obtain ⟨z0, e0, _, w0⟩ := DataW.trod_int Try.underlying3 t0
  obtain ⟨z1, e1, _, w1⟩ := DataW.trod_int Try.underlying3 t1
  obtain ⟨lv, ls, e2, hl⟩ := open_leaves_cell t2
  obtain ⟨pv, ps, e3, h1, _, h3⟩ := open_ints_cell t3
  exact ⟨⟨z0, z1, lv, ls, pv, ps⟩, (hat 0 (by omega)).trans (take_one e0), (hat 1 (by omega)).trans (take_one e1), (hat 2 (by omega)).trans (take_one e2), (hat 3 (by omega)).trans (take_one e3), (i64_of_wf w1).2, hl, h1, h3⟩
set_option maxRecDepth 100000 in
/-- A cell that holds a list of steps. -/
theorem open_steps_cell {fuel : Nat} {cs : List Value} {x : DataW H × List MemPlace} (hf : DataW.trod enc Try.prog w 0 (fun _ => true) true fuel 41 cs = some x) : ∃ v xs, cs = [v] ∧ StpV w v xs := by
  rcases Deep.open_slice Try.underlying41 hf with ⟨hcs, _⟩ | ⟨a, len, cap, m, n, D, Pl, hcs, _, hl, hcm, hm, _, hi⟩
  · exact ⟨_, [], hcs, none, 0, rfl, Nat.zero_le _, fun q => by simp at q⟩
  · simp only [if_true] at hm
    rcases Nat.eq_zero_or_pos len with rfl | hpos
    · exact ⟨_, [], hcs, _, cap, rfl, Nat.zero_le _, fun q => by simp at q⟩
    · have hpl : a = ⟨a.block, a.off, none⟩ := by
        obtain ⟨cs', hc, ht⟩ := hi 0 (by omega)
        rw [cellsStep] at hc
        obtain ⟨_, hlen, hat⟩ := World.cells?_some hc
        have h0 := hat 0 (by omega)
        have e : (a.add (0 * 4)).add 0 = a := by rw [Nat.zero_mul]; simp [Addr.add]
        rw [e] at h0
        rw [List.getElem?_eq_getElem (by omega : 0 < cs'.length)] at h0
        exact plain_addr h0
      obtain ⟨b, off, sp⟩ := a
      obtain rfl : sp = none := by injection hpl
      obtain ⟨xs, hsl, hs⟩ := list_of (Q := fun i (p : StepD) => StepAt w b (off + i * 4) p) len (fun i hil => by
        obtain ⟨cs', hc, ht⟩ := hi i (by omega)
        rw [cellsStep] at hc
        obtain ⟨_, hlen, hat⟩ := World.cells?_some hc
        refine open_step (fun j hj => ?_) ht
        have := hat j hj
        rw [add_plain, add_plain] at this
        exact this)
      subst hsl
      exact ⟨_, xs, hcs, _, cap, rfl, by omega, fun _ => ⟨b, off, rfl, hs⟩⟩
theorem open_steps {v : Value} {d : DataW H} {p : List MemPlace} (hval : ∃ a len cap, v = .slice a len cap) (h : DataW.Trod enc Try.prog w 0 (fun _ => true) true 41 v d p) : ∃ xs, StpV w v xs := by
  obtain ⟨a0, len0, cap0, rfl⟩ := hval
  obtain ⟨fuel, hf⟩ := h
  obtain ⟨v, xs, e, h1⟩ := open_steps_cell hf
  have e' : v = .slice a0 len0 cap0 := by simp [Value.cells] at e; exact e.symm
  subst e'
  exact ⟨xs, h1⟩
end
/-- A step with few parts; few of them. -/
def okS (x : StepD) : Prop := x.ls.length ≤ 62 ∧ x.ps.length ≤ 200 ∧ ∀ l ∈ x.ls, l.b.length ≤ 600
theorem lv_form {w : World} {v : Value} {xs : List Leaf} (h : LvV w v xs) : ∃ A c, v = .slice A xs.length c ∧ xs.length ≤ 9223372036854775807 := by
  obtain ⟨A, c, e, h1, h2, _⟩ := h
  exact ⟨A, c, e, by simp only [maxLen] at h2; omega⟩
theorem ints_form {w : World} {v : Value} {zs : List Int} (h : IntsAt w v zs) : ∃ A c, v = .slice A zs.length c ∧ zs.length ≤ 9223372036854775807 := by
  obtain ⟨A, c, e, h1, _⟩ := h
  exact ⟨A, c, e, by simp only [maxLen] at h1; omega⟩
def BoolQ (R : Bool → Prop) (e : Ending) : Prop := ∃ b : Bool, e = .returned (.bool b) ∧ R b
theorem BoolQ.mk {R : Bool → Prop} (b : Bool) (h : R b) : BoolQ R (.returned (.bool b)) := ⟨b, rfl, h⟩
set_option maxRecDepth 100000 in
set_option maxHeartbeats 4000000 in
theorem lfew_any {w : World} {v : Value} {xs : List StepD} (h : StpV w v xs) (m : Nat) (hm : m ≤ 1000) : Calls Try.prog 16 #[v, .int .i64 m] w fun e w' => BoolQ (fun b => (b = true ↔ xs.length ≤ m ∧ ∀ x ∈ xs, okS x)) e ∧ w = w' := by
  obtain ⟨A, cap, rfl, hxm, h3⟩ := h
  obtain ⟨n, hn⟩ : ∃ n, n = xs.length := ⟨_, rfl⟩
  rw [← hn] at h3 hxm ⊢
  have hn9 : n ≤ 9223372036854775807 := by simp only [maxLen] at hxm; omega
  obtain ⟨R, hR⟩ : ∃ R : Bool → Prop, R = fun b => (b = true ↔ n ≤ m ∧ ∀ x ∈ xs, okS x) := ⟨_, rfl⟩
  have HH := Lib.hid (And.intro hn (And.intro h3 hR))
  have HNO : Hid (∀ (k : Nat) (x : StepD), xs[k]? = some x → ¬ okS x → R false) := Lib.hid fun k x hx hno => by
    rw [hR]
    exact ⟨fun q => (by cases q), fun q => absurd (q.2 x (List.mem_of_getElem? hx)) hno⟩
  rw [← hR]
  clear hn h3 hxm hR
  go_enter Try.func16, Try.ntmps16
  go_wp2_with fail
  go_loop [5] (fun i => ∃ k : Nat, i = .int .i64 k ∧ k ≤ n ∧ k ≤ m + 1 ∧ Hid (∀ j x, j < k → xs[j]? = some x → okS x)) (fun i => n - (intOf i).toNat)
  case atStart => exact ⟨0, rfl, Nat.zero_le _, Nat.zero_le _, Lib.hid (fun j x hj => absurd hj (by omega))⟩
  case round =>
    obtain ⟨k, rfl, hk, hkm, HV⟩ := hrel
    by_cases hlt : k < n
    · by_cases hle : k ≤ m
      · obtain ⟨b, off, rfl, hat⟩ := HH.out.2.1 (by omega)
        obtain ⟨x, hx⟩ : ∃ x, xs[k]? = some x := ⟨_, List.getElem?_eq_getElem (by have := HH.out.1; omega)⟩
        have hs := hat k x hx
        obtain ⟨Al, cl, hlv, hl9⟩ := lv_form hs.l
        obtain ⟨Ap, cp, hpv, hp9⟩ := ints_form hs.p
        have c2 := hs.c2
        have c3 := hs.c3
        have hll := hs.l
        rw [hlv] at c2 hll
        rw [hpv] at c3
        obtain ⟨nl, hnl⟩ : ∃ nl, nl = x.ls.length := ⟨_, rfl⟩
        obtain ⟨np, hnp⟩ : ∃ np, np = x.ps.length := ⟨_, rfl⟩
        rw [← hnl] at c2 hl9 hll
        rw [← hnp] at c3 hp9
        have HX := Lib.hid (And.intro hx (And.intro hnl (And.intro hnp hll)))
        have hi0 : (0 : Int) ≤ (k : Int) := by omega
        have hi1 : (k : Int) < (n : Int) := by omega
        have hi2 : (k : Int) ≤ (m : Int) := by omega
        clear hx hs hlv hpv hnl hnp hll hat
        by_cases a1 : (nl : Int) > 62
        · have hno := HNO.out k x HX.out.1 (fun q => by have := q.1; have := HX.out.2.1; omega)
          have HNF := Lib.hid hno
          have a1' : (62 : Int) < (nl : Int) := a1
          clear hno
          go_wp2_with fail
          go_ret
          exact ⟨BoolQ.mk _ HNF.out, rfl⟩
        · have a1' : ¬ (62 : Int) < (nl : Int) := a1
          by_cases a2 : (np : Int) > 200
          · have hno := HNO.out k x HX.out.1 (fun q => by have := q.2.1; have := HX.out.2.2.1; omega)
            have HNF := Lib.hid hno
            have a2' : (200 : Int) < (np : Int) := a2
            clear hno
            go_wp2_with fail
            go_ret
            exact ⟨BoolQ.mk _ HNF.out, rfl⟩
          · have a2' : ¬ (200 : Int) < (np : Int) := a2
            have hnl62 : nl ≤ 62 := by omega
            have HP := Lib.hid (show np ≤ 200 by omega)
            go_wp2_with fail
            go_loop [6] (fun q => ∃ j : Nat, q = .int .i64 j ∧ j ≤ nl ∧ Hid (∀ i l, i < j → x.ls[i]? = some l → l.b.length ≤ 600)) (fun q => nl - (intOf q).toNat)
            case atStart => exact ⟨0, rfl, Nat.zero_le _, Lib.hid (fun i l hi => absurd hi (by omega))⟩
            case round =>
              obtain ⟨j, rfl, hj, HU⟩ := hrel
              by_cases hjl : j < nl
              · obtain ⟨A1, c1, e1, _, _, h5⟩ := HX.out.2.2.2
                injection e1 with e1 e2 e3
                subst e1
                obtain ⟨bl, ol, rfl, hls⟩ := h5 (by have := HX.out.2.1; omega)
                obtain ⟨l, hl⟩ : ∃ l, x.ls[j]? = some l := ⟨_, List.getElem?_eq_getElem (by have := HX.out.2.1; omega)⟩
                obtain ⟨_, Ab, cb, k2, _, k4⟩ := hls j l hl
                obtain ⟨nb, hnb⟩ : ∃ nb, nb = l.b.length := ⟨_, rfl⟩
                rw [← hnb] at k2 k4
                have HL := Lib.hid (And.intro hl hnb)
                have hj0 : (0 : Int) ≤ (j : Int) := by omega
                have hj1 : (j : Int) < (nl : Int) := by omega
                clear h5 hls hl hnb e2 e3
                by_cases a3 : (nb : Int) > 600
                · have hno := HNO.out k x HX.out.1 (fun q => by have h1 := q.2.2 l (List.mem_of_getElem? HL.out.1); have := HL.out.2; omega)
                  have HNF := Lib.hid hno
                  have a3' : (600 : Int) < (nb : Int) := a3
                  clear hno
                  go_wp2_with fail
                  go_ret
                  exact ⟨BoolQ.mk _ HNF.out, rfl⟩
                · have a3' : ¬ (600 : Int) < (nb : Int) := a3
                  go_wp2_with fail
                  refine ⟨⟨j + 1, by go_num, hjl, Lib.hid (fun i l' hi hl' => ?_)⟩, by simp [intOf]; omega⟩
                  by_cases e : i = j
                  · subst e
                    rw [HL.out.1] at hl'
                    injection hl' with hl'
                    subst hl'
                    have := HL.out.2
                    omega
                  · exact HU.out i l' (by omega) hl'
              · obtain rfl : j = nl := by omega
                have hok : okS x := ⟨by have := HX.out.2.1; omega, by have := HX.out.2.2.1; have := HP.out; omega, fun l hl => by
                  obtain ⟨i, hi⟩ := List.getElem?_of_mem hl
                  exact HU.out i l (by have := (List.getElem?_eq_some_iff.1 hi).1; have := HX.out.2.1; omega) hi⟩
                have HOK := Lib.hid hok
                clear hok hjl hj
                go_wp2_with fail
                refine ⟨⟨k + 1, by go_num, by omega, by omega, Lib.hid (fun i y hi hy => ?_)⟩, by simp [intOf]; omega⟩
                by_cases e : i = k
                · subst e
                  rw [HX.out.1] at hy
                  injection hy with hy
                  rw [← hy]
                  exact HOK.out
                · exact HV.out i y (by omega) hy
      · have hi1 : (k : Int) < (n : Int) := by omega
        have hi2 : ¬ (k : Int) ≤ (m : Int) := by omega
        have hi3 : ¬ (n : Int) ≤ (m : Int) := by omega
        have hR0 : R false := by
          rw [HH.out.2.2]
          exact ⟨fun q => (by cases q), fun q => absurd q.1 (by omega)⟩
        have HNF := Lib.hid hR0
        clear hR0
        go_wp2_with fail
        go_ret
        exact ⟨BoolQ.mk _ HNF.out, rfl⟩
    · obtain rfl : k = n := by omega
      have hall : ∀ x ∈ xs, okS x := fun x hx => by
        obtain ⟨i, hi⟩ := List.getElem?_of_mem hx
        exact HV.out i x (by have := (List.getElem?_eq_some_iff.1 hi).1; have := HH.out.1; omega) hi
      have hR0 : R (decide (k ≤ m)) := by
        rw [HH.out.2.2]
        simp only [decide_eq_true_eq]
        exact ⟨fun q => ⟨q, hall⟩, fun q => q.1⟩
      have HNF := Lib.hid hR0
      clear hR0 hall hlt hk
      by_cases hkm2 : (k : Int) ≤ (m : Int)
      · have e1 : decide (k ≤ m) = true := by rw [decide_eq_true_eq]; omega
        rw [e1] at HNF
        clear e1
        go_wp2_with fail
        go_ret
        exact ⟨BoolQ.mk _ HNF.out, rfl⟩
      · have e1 : decide (k ≤ m) = false := by rw [decide_eq_false_iff_not]; omega
        rw [e1] at HNF
        clear e1
        go_wp2_with fail
        go_ret
        exact ⟨BoolQ.mk _ HNF.out, rfl⟩
end Go.Proofs.Ytobnfadcffhfdaa
