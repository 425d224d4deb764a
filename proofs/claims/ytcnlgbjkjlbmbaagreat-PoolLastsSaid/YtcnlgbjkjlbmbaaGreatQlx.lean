/- couponlaw06: lives that came in. -/
import Derived.Test.YtcnlgbjkjlbmbaaGreatQlv
import Derived.Deep.Strs
namespace Go.Proofs.YtcnlgbjkjlbmbaaGreat
open Go.ChangeShapes Go.WideShapes Go.ChangeAt Go.RowKit

theorem old_cell {w w' : World} {B : Nat} {a : Addr} {v : Value} (hB : w.heap.size ≤ B) (f : Fr (fun b => B ≤ b) w w') (h : w.cell? a = some v) : w'.cell? a = some v := by
 have hl := World.block_lt_of_cell? w _ h
 exact (f.cell hl (fun q => by omega)).trans h
theorem Rd.old {w w' : World} {B : Nat} {A : Option Addr} {n : Nat} {l : List UInt8} (h : Rd w A n l) (hB : w.heap.size ≤ B) (f : Fr (fun b => B ≤ b) w w') : Rd w' A n l := by
 rcases Nat.eq_zero_or_pos n with rfl | hp
 · exact ⟨h.1, fun hn => absurd hn (by omega)⟩
 · exact h.keep f (fun ad e q => by
    obtain ⟨ad', e', hlt⟩ := h.lt hp
    rw [e] at e'
    injection e' with e'
    subst e'
    omega)
theorem IntsAt.old {w w' : World} {B : Nat} {v : Value} {zs : List Int} (h : IntsAt w v zs) (hB : w.heap.size ≤ B) (f : Fr (fun b => B ≤ b) w w') : IntsAt w' v zs := by
 obtain ⟨A, c, e, h1, h2⟩ := h
 refine ⟨A, c, e, h1, fun q => ?_⟩
 obtain ⟨b, off, e1, hs⟩ := h2 q
 exact ⟨b, off, e1, fun i z hi => old_cell hB f (hs i z hi)⟩
theorem ListV.old {w w' : World} {B : Nat} {v : Value} {xs : List ActR} (h : ListV w v xs) (hB : w.heap.size ≤ B) (f : Fr (fun b => B ≤ b) w w') : ListV w' v xs := by
 obtain ⟨A, cap, h1, h2, h3⟩ := h
 refine ⟨A, cap, h1, h2, fun h0 => ?_⟩
 obtain ⟨b, off, h4, h5⟩ := h3 h0
 refine ⟨b, off, h4, fun i x hi => ?_⟩
 obtain ⟨⟨k1, k2, k3, k4⟩, hr⟩ := h5 i x hi
 refine ⟨⟨k1, k2.old hB f, k3, k4⟩, fun w'' g j u hj => ?_⟩
 have h0 := hr w (Fr.refl _ w) j u hj
 have h1 := old_cell hB f h0
 exact (g.cell (World.block_lt_of_cell? w' _ h1) (fun q => q)).trans h1
structure LifeD where
 fu : Int
 sv : Value
 ss : List ActR
 pv : Value
 ps : List Int
structure LifeAt (w : World) (b off : Nat) (x : LifeD) : Prop where
 c0 : w.cell? ⟨b, off, none⟩ = some (.int .i64 x.fu)
 c1 : w.cell? ⟨b, off + 1, none⟩ = some x.sv
 c2 : w.cell? ⟨b, off + 2, none⟩ = some x.pv
 f1 : x.fu ≤ 9223372036854775807
 s : ListV w x.sv x.ss
 p : IntsAt w x.pv x.ps
 pl : ∀ b, x.pv.ownBlock = some b → 0 < x.ps.length → b < w.heap.size
def LifsAt (w : World) (b off : Nat) (xs : List LifeD) : Prop := ∀ (i : Nat) (x : LifeD), xs[i]? = some x → LifeAt w b (off + i * 3) x
def LifV (w : World) (v : Value) (xs : List LifeD) : Prop := ∃ A cap, v = .slice A xs.length cap ∧ xs.length ≤ maxLen ∧ (0 < xs.length → ∃ b off, A = some ⟨b, off, none⟩ ∧ LifsAt w b off xs)
theorem LifeAt.old {w w' : World} {B b off : Nat} {x : LifeD} (h : LifeAt w b off x) (hB : w.heap.size ≤ B) (f : Fr (fun b => B ≤ b) w w') : LifeAt w' b off x :=
 ⟨old_cell hB f h.c0, old_cell hB f h.c1, old_cell hB f h.c2, h.f1, h.s.old hB f, h.p.old hB f, fun b hb q => Nat.lt_of_lt_of_le (h.pl b hb q) f.size⟩
theorem LifV.at_ {w : World} {A : Option Addr} {n cap k : Nat} {xs : List LifeD} {x : LifeD} (h : LifV w (.slice A n cap) xs) (hk : xs[k]? = some x) : ∃ b off, A = some ⟨b, off, none⟩ ∧ LifeAt w b (off + k * 3) x := by
 obtain ⟨A0, cap0, e0, _, h3⟩ := h
 injection e0 with e1 e2 e3
 subst e1
 obtain ⟨b, off, rfl, hat⟩ := h3 (by have := (List.getElem?_eq_some_iff.1 hk).1; omega)
 exact ⟨b, off, rfl, hat k x hk⟩
theorem cellsLife : Tryz.prog.cellsOf 29 = 3 := by kernel_rfl
theorem cellsStps : Tryz.prog.cellsOf 26 = 1 := by kernel_rfl
theorem cellsPks : Tryz.prog.cellsOf 27 = 1 := by kernel_rfl
theorem undLife : Tryz.prog.underlying 29 = some (.struct #[⟨"Fuse", 3, 0, false, "", "", 0⟩, ⟨"Steps", 26, 1, false, "", "", 8⟩, ⟨"Picks", 27, 2, false, "", "", 32⟩]) := by kernel_rfl
theorem take_one' {u : Value} {cs : List Value} {n : Nat} (h : (cs.drop n).take 1 = [u]) : cs[n]? = some u := by
 have : (cs.drop n)[0]? = some u := by
  cases hd : cs.drop n with
  | nil => rw [hd] at h; simp at h
  | cons a t => rw [hd] at h; simp at h; simp [h]
 rw [List.getElem?_drop] at this
 exact this
section
variable {H : Type} {enc : TypeId × Value → H} {w : World}
theorem open_ints_cell {fuel : Nat} {cs : List Value} {x : DataW H × List MemPlace} (hf : DataW.trod enc Tryz.prog w 0 (fun _ => true) true fuel 27 cs = some x) : ∃ v picks, cs = [v] ∧ IntsAt w v picks ∧ (∀ z ∈ picks, -9223372036854775808 ≤ z ∧ z ≤ 9223372036854775807) ∧ (∀ b, v.ownBlock = some b → 0 < picks.length → b < w.heap.size) := by
 rcases open_ints Tryz.underlying27 Tryz.underlying3 cells3 hf with ⟨rfl, _⟩ | ⟨a, len0, cap0, zs, rfl, _, hl, hc, hz, _, hcell, hwf⟩
 · exact ⟨_, [], rfl, ⟨none, 0, rfl, Nat.zero_le _, fun q => by simp at q⟩, fun z hz => by simp at hz, fun b hb q => by simp at q⟩
 · simp only [if_true] at hz
   have hlt : (zs.take len0).length = len0 := by rw [List.length_take]; omega
   have hin : ∀ z ∈ zs.take len0, -9223372036854775808 ≤ z ∧ z ≤ 9223372036854775807 := fun z hz1 => i64_of_wf (hwf z (List.mem_of_mem_take hz1))
   rcases Nat.eq_zero_or_pos len0 with rfl | hpos
   · exact ⟨_, zs.take 0, rfl, ⟨some a, cap0, by rw [hlt], by rw [hlt]; omega, fun q => by rw [hlt] at q; omega⟩, hin, fun b hb q => by rw [hlt] at q; omega⟩
   have h0 := hcell 0 (by omega)
   have e0 : a.add 0 = a := by simp [Addr.add]
   rw [e0] at h0
   have hpl := plain_addr (a := a) h0
   obtain ⟨b, off, sp⟩ := a
   obtain rfl : sp = none := by injection hpl
   refine ⟨_, zs.take len0, rfl, ⟨some ⟨b, off, none⟩, cap0, by rw [hlt], by rw [hlt]; omega, fun q => ?_⟩, hin, fun b' hb q => ?_⟩
   · refine ⟨b, off, rfl, fun i z hi => ?_⟩
     rw [List.getElem?_take] at hi
     split at hi
     · rename_i hil
       have h1 := hcell i (by omega)
       rw [add_plain] at h1
       rw [h1, List.getD_eq_getElem?_getD, hi]
       rfl
     · cases hi
   · have := World.block_lt_of_cell? w _ h0
     have hb2 : b = b' := by simpa [Value.ownBlock] using hb
     rw [← hb2]
     exact this
theorem open_steps_cell {fuel : Nat} {cs : List Value} {x : DataW H × List MemPlace} (hf : DataW.trod enc Tryz.prog w 0 (fun _ => true) true fuel 26 cs = some x) : ∃ v xs, cs = [v] ∧ ListV w v xs := by
 rcases Deep.open_slice Tryz.underlying26 hf with ⟨hcs, _⟩ | ⟨a, len, cap, m, n, D, Pl, hcs, _, hl, hcm, hm, _, hi⟩
 · exact ⟨_, [], hcs, none, 0, rfl, Nat.zero_le _, fun q => by simp at q⟩
 · simp only [if_true] at hm
   rcases Nat.eq_zero_or_pos len with rfl | hpos
   · exact ⟨_, [], hcs, _, cap, rfl, Nat.zero_le _, fun q => by simp at q⟩
   · obtain ⟨xs, hxl, hx⟩ := list_of (Q := fun i (p : ActR) => ActK w p ∧ w.cell? (a.add (i * 4)) = some (.int .i64 p.a.kd) ∧ w.cell? (a.add (i * 4 + 1)) = some (.int .i64 p.a.sl) ∧ w.cell? (a.add (i * 4 + 2)) = some (.int .i64 p.a.nx) ∧ w.cell? (a.add (i * 4 + 3)) = some (.slice p.A p.n p.c)) len (fun i hil => by
      obtain ⟨cs', hc, ht⟩ := hi i (by omega)
      rw [cellsAct] at hc
      exact open_act hc ht)
     have h0 := (hx 0 xs[0] (List.getElem?_eq_getElem (by omega))).2.1
     have hpl := plain_addr (a := a) h0
     obtain ⟨b, off, sp⟩ := a
     obtain rfl : sp = none := by injection hpl
     subst hxl
     refine ⟨_, xs, hcs, _, cap, rfl, by omega, fun _ => ⟨b, off, rfl, fun i x hix => ?_⟩⟩
     obtain ⟨q0, q1, q2, q3, q4⟩ := hx i x hix
     rw [add_plain] at q1 q2 q3 q4
     refine ⟨q0, fun w' f k u hk => ?_⟩
     match k with
     | 0 => exact (f.cell (World.block_lt_of_cell? w _ q1) (fun q => q)).trans (q1.trans hk)
     | 1 => exact (f.cell (World.block_lt_of_cell? w _ q2) (fun q => q)).trans (q2.trans hk)
     | 2 => exact (f.cell (World.block_lt_of_cell? w _ q3) (fun q => q)).trans (q3.trans hk)
     | 3 => exact (f.cell (World.block_lt_of_cell? w _ q4) (fun q => q)).trans (q4.trans hk)
     | k + 4 => simp [cellsA] at hk
theorem open_life {b off : Nat} {fuel : Nat} {cs : List Value} {x : DataW H × List MemPlace} (hat : ∀ j, j < 3 → w.cell? ⟨b, off + j, none⟩ = cs[j]?) (h : DataW.trod enc Tryz.prog w 0 (fun _ => true) true fuel 29 cs = some x) : ∃ p : LifeD, LifeAt w b off p := by
 obtain ⟨y0, y1, y2, n, _, hlen, t0, t1, t2⟩ := Deep.trod_struct3 undLife h
 simp only [cells3, cellsStps, cellsPks] at t0 t1 t2
 obtain ⟨z0, e0, _, w0⟩ := DataW.trod_int Tryz.underlying3 t0
 obtain ⟨sv, ss, e1, hs⟩ := open_steps_cell t1
 obtain ⟨pv, ps, e2, h1, _, h3⟩ := open_ints_cell t2
 exact ⟨⟨z0, sv, ss, pv, ps⟩, (hat 0 (by omega)).trans (take_one' e0), (hat 1 (by omega)).trans (take_one' e1), (hat 2 (by omega)).trans (take_one' e2), (i64_of_wf w0).2, hs, h1, h3⟩
set_option maxRecDepth 100000 in
theorem open_lives {v : Value} {d : DataW H} {p : List MemPlace} (hval : ∃ a len cap, v = .slice a len cap) (h : DataW.Trod enc Tryz.prog w 0 (fun _ => true) true 22 v d p) : ∃ xs, LifV w v xs := by
 obtain ⟨a0, len, cap, rfl⟩ := hval
 obtain ⟨fuel, hf⟩ := h
 rcases Deep.open_slice Tryz.underlying22 hf with ⟨hcs, _⟩ | ⟨a, len', cap', m, n, D, Pl, hcs, _, hl, hcm, hm, _, hi⟩
 · simp [Value.cells] at hcs
   obtain ⟨rfl, rfl, rfl⟩ := hcs
   exact ⟨[], none, 0, rfl, Nat.zero_le _, fun q => by simp at q⟩
 · simp [Value.cells] at hcs
   obtain ⟨rfl, rfl, rfl⟩ := hcs
   simp only [if_true] at hm
   rcases Nat.eq_zero_or_pos len with rfl | hpos
   · exact ⟨[], _, cap, rfl, Nat.zero_le _, fun q => by simp at q⟩
   · have hpl : a = ⟨a.block, a.off, none⟩ := by
      obtain ⟨cs', hc, ht⟩ := hi 0 (by omega)
      rw [cellsLife] at hc
      obtain ⟨_, hlen, hat⟩ := World.cells?_some hc
      have h0 := hat 0 (by omega)
      have e : (a.add (0 * 3)).add 0 = a := by rw [Nat.zero_mul]; simp [Addr.add]
      rw [e] at h0
      rw [List.getElem?_eq_getElem (by omega : 0 < cs'.length)] at h0
      exact plain_addr h0
     obtain ⟨b, off, sp⟩ := a
     obtain rfl : sp = none := by injection hpl
     obtain ⟨xs, hsl, hs⟩ := list_of (Q := fun i (p : LifeD) => LifeAt w b (off + i * 3) p) len (fun i hil => by
      obtain ⟨cs', hc, ht⟩ := hi i (by omega)
      rw [cellsLife] at hc
      obtain ⟨_, hlen, hat⟩ := World.cells?_some hc
      refine open_life (fun j hj => ?_) ht
      have := hat j hj
      rw [add_plain, add_plain] at this
      exact this)
     subst hsl
     exact ⟨xs, _, cap, rfl, by omega, fun _ => ⟨b, off, rfl, hs⟩⟩
end
end Go.Proofs.YtcnlgbjkjlbmbaaGreat

