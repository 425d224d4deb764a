/- Lives that came in, opened; couponlaw04's calls on a disk at rest. -/
import Derived.Test.YtobnfadcffhfdaaVst
import Derived.Test.YtobnfadcffhfdaaVwd
import Derived.Deep.Strs
namespace Go.Proofs.Ytobnfadcffhfdaa
open Go.ChangeShapes Go.WideShapes Go.ChangeAt Go.RowKit

/-- A life: its fuse, its steps, its picks. -/
structure LifeD where
  fu : Int
  sv : Value
  ss : List StepD
  pv : Value
  ps : List Int
structure LifeAt (w : World) (b off : Nat) (x : LifeD) : Prop where
  c0 : w.cell? ⟨b, off, none⟩ = some (.int .i64 x.fu)
  c1 : w.cell? ⟨b, off + 1, none⟩ = some x.sv
  c2 : w.cell? ⟨b, off + 2, none⟩ = some x.pv
  f1 : x.fu ≤ 9223372036854775807
  s : StpV w x.sv x.ss
  p : IntsAt w x.pv x.ps
  pl : ∀ b, x.pv.ownBlock = some b → 0 < x.ps.length → b < w.heap.size
def LifsAt (w : World) (b off : Nat) (xs : List LifeD) : Prop := ∀ (i : Nat) (x : LifeD), xs[i]? = some x → LifeAt w b (off + i * 3) x
def LifV (w : World) (v : Value) (xs : List LifeD) : Prop := ∃ A cap, v = .slice A xs.length cap ∧ xs.length ≤ maxLen ∧ (0 < xs.length → ∃ b off, A = some ⟨b, off, none⟩ ∧ LifsAt w b off xs)
theorem LifeAt.old {w w' : World} {B b off : Nat} {x : LifeD} (h : LifeAt w b off x) (hB : w.heap.size ≤ B) (f : Fr (fun b => B ≤ b) w w') : LifeAt w' b off x :=
  ⟨old_cell hB f h.c0, old_cell hB f h.c1, old_cell hB f h.c2, h.f1, h.s.old hB f, h.p.old hB f, fun b hb q => Nat.lt_of_lt_of_le (h.pl b hb q) f.size⟩
theorem LifV.old {w w' : World} {B : Nat} {v : Value} {xs : List LifeD} (h : LifV w v xs) (hB : w.heap.size ≤ B) (f : Fr (fun b => B ≤ b) w w') : LifV w' v xs := by
  obtain ⟨A, cap, e, h1, h2⟩ := h
  refine ⟨A, cap, e, h1, fun q => ?_⟩
  obtain ⟨b, off, e1, hs⟩ := h2 q
  exact ⟨b, off, e1, fun i x hi => (hs i x hi).old hB f⟩
theorem cellsLife : Try.prog.cellsOf 44 = 3 := by kernel_rfl
theorem cellsStps : Try.prog.cellsOf 41 = 1 := by kernel_rfl
theorem undLife : Try.prog.underlying 44 = some (.struct #[⟨"Fuse", 3, 0, false, "", "", 0⟩, ⟨"Steps", 41, 1, false, "", "", 8⟩, ⟨"Picks", 42, 2, false, "", "", 32⟩]) := by kernel_rfl
section
variable {H : Type} {enc : TypeId × Value → H} {w : World}
theorem open_life {b off : Nat} {fuel : Nat} {cs : List Value} {x : DataW H × List MemPlace} (hat : ∀ j, j < 3 → w.cell? ⟨b, off + j, none⟩ = cs[j]?) (h : DataW.trod enc Try.prog w 0 (fun _ => true) true fuel 44 cs = some x) : ∃ p : LifeD, LifeAt w b off p := by
  obtain ⟨y0, y1, y2, n, _, hlen, t0, t1, t2⟩ := Deep.trod_struct3 undLife h
  simp only [cells3, cellsStps, cellsPks] at t0 t1 t2
  obtain ⟨z0, e0, _, w0⟩ := DataW.trod_int Try.underlying3 t0
  obtain ⟨sv, ss, e1, hs⟩ := open_steps_cell t1
  obtain ⟨pv, ps, e2, h1, _, h3⟩ := open_ints_cell t2
  exact ⟨⟨z0, sv, ss, pv, ps⟩, (hat 0 (by omega)).trans (take_one e0), (hat 1 (by omega)).trans (take_one e1), (hat 2 (by omega)).trans (take_one e2), (i64_of_wf w0).2, hs, h1, h3⟩
set_option maxRecDepth 100000 in
/-- A list of lives that came in. -/
theorem open_lives {v : Value} {d : DataW H} {p : List MemPlace} (hval : ∃ a len cap, v = .slice a len cap) (h : DataW.Trod enc Try.prog w 0 (fun _ => true) true 39 v d p) : ∃ xs, LifV w v xs := by
  obtain ⟨a0, len, cap, rfl⟩ := hval
  obtain ⟨fuel, hf⟩ := h
  rcases Deep.open_slice Try.underlying39 hf with ⟨hcs, _⟩ | ⟨a, len', cap', m, n, D, Pl, hcs, _, hl, hcm, hm, _, hi⟩
  · simp [Value.cells] at hcs
    obtain ⟨rfl, rfl, rfl⟩ := hcs
    exact ⟨[], none, 0, rfl, Nat.zero_le _, fun q => by simp at q⟩
  · simp [Value.cells] at hcs
    obtain ⟨rfl, rfl, rfl⟩ := hcs
    simp only [if_true] at hm
    rcases Nat.eq_zero_or_pos len with rfl | hpos
    · exact ⟨[], _, cap, rfl, Nat.zero_le _, fun q => by simp at q⟩
    · have hpl : a = ⟨a.block, a.off, none⟩ := by
        obtain ⟨cs', hc, ht⟩ := hi 0 (by omega)
        rw [cellsLife] at hc
        obtain ⟨_, hlen, hat⟩ := World.cells?_some hc
        have h0 := hat 0 (by omega)
        have e : (a.add (0 * 3)).add 0 = a := by rw [Nat.zero_mul]; simp [Addr.add]
        rw [e] at h0
        rw [List.getElem?_eq_getElem (by omega : 0 < cs'.length)] at h0
        exact plain_addr h0
      obtain ⟨b, off, sp⟩ := a
      obtain rfl : sp = none := by injection hpl
      obtain ⟨xs, hsl, hs⟩ := list_of (Q := fun i (p : LifeD) => LifeAt w b (off + i * 3) p) len (fun i hil => by
        obtain ⟨cs', hc, ht⟩ := hi i (by omega)
        rw [cellsLife] at hc
        obtain ⟨_, hlen, hat⟩ := World.cells?_some hc
        refine open_life (fun j hj => ?_) ht
        have := hat j hj
        rw [add_plain, add_plain] at this
        exact this)
      subst hsl
      exact ⟨xs, _, cap, rfl, by omega, fun _ => ⟨b, off, rfl, hs⟩⟩
end
/-- A loss of power, with picks that came in. -/
theorem acrash_p1 {w : World} {B g : Nat} {P : Nat → Prop} {d : DS} (h : DAt w B P g d) {vp : Value} {picks : List Int} (hp : IntsAt w vp picks) (hpF : ∀ b, vp.ownBlock = some b → 0 < picks.length → ¬ P b) (hN : d.most 1000000) :
    Calls Try.prog 21 #[.pointer (some ⟨g, 0, none⟩), vp] w fun e w' => e = .returned (.int .i64 0) ∧ DAt w' B P g (d.crash picks) ∧ Fr P w w' := by
  obtain ⟨⟨R, M, D, val, k1⟩, k2⟩ := h
  refine (dcrash_pos k1 hp (fun b hb q => ⟨fun e => hpF b hb q (e ▸ k1.fR), fun e => hpF b hb q (e ▸ k1.fM)⟩) (fun i _ => hN i)).mono ?_
  rintro e w1 ⟨rfl, ⟨D', j1⟩, f1⟩
  exact ⟨rfl, DAt.of_same ⟨R, M, D', val, j1⟩ k2 f1.size, f1⟩
end Go.Proofs.Ytobnfadcffhfdaa
