/- A disk of one sector: what couponlaw03.known does with it. -/
import Derived.Test.YtiobmejnamdneaaCrs
namespace Go.Proofs.Ytiobmejnamdneaa
open Go.RowKit Go.Maps

/-- A disk of one sector without a fuse: r is read of it, v are its versions. -/
structure Kd (d : DS) (r : List UInt8) (v : List (List UInt8)) : Prop where
  rd : d.rd = [r]
  vs : d.vs 0 = v
  fu : d.fu = false
  dd : d.dd = false
theorem kd_new : Kd (newD 1) (nought 128) [] := ⟨rfl, rfl, rfl, rfl⟩
theorem Kd.alive {d : DS} {r : List UInt8} {v : List (List UInt8)} (h : Kd d r v) : deadS d.fu d.lf d.dd = false := by
  simp [deadS, h.fu, h.dd]
theorem Kd.step {d : DS} {r : List UInt8} {v : List (List UInt8)} (h : Kd d r v) : Kd d.step r v := ⟨h.rd, h.vs, h.fu, h.alive⟩
theorem Kd.put {d : DS} {r s : List UInt8} {v : List (List UInt8)} (h : Kd d r v) : Kd (d.step.put 0 (if d.vs 0 = [] then [r] else d.vs 0) s) s ((if v = [] then [r] else v) ++ [s]) :=
  ⟨by show d.rd.set 0 s = [s]; rw [h.rd]; rfl, by simp [DS.put, h.vs], h.fu, h.alive⟩
theorem Kd.flush {d : DS} {r : List UInt8} {v : List (List UInt8)} (h : Kd d r v) : Kd d.flush r [] := ⟨h.rd, rfl, h.fu, h.alive⟩
theorem Kd.crash {d : DS} {r : List UInt8} {v : List (List UInt8)} (h : Kd d r v) (hv : v ≠ []) (p : Int) : Kd (d.crash [p]) (leftL v (pickN v.length p)) [] := by
  have ho : d.openL = [0] := by
    have he : v.isEmpty = false := by cases v <;> simp_all
    simp [DS.openL, h.rd, List.range_succ, h.vs, he]
  have hp : d.pairs [p] = [(0, p)] := by simp [DS.pairs, ho]
  refine ⟨?_, ?_, rfl, rfl⟩
  · show (d.falls (d.pairs [p])).rd = _
    rw [hp]
    show d.rd.set 0 (leftL (d.vs 0) (pickN (d.vs 0).length p)) = _
    rw [h.rd, h.vs]
    rfl
  · show (d.falls (d.pairs [p])).vs 0 = []
    rw [hp]
    simp [DS.falls, DS.left1, DS.fall]

/-- It stands in memory, its blocks from B on. -/
def KdAt (w : World) (B g : Nat) (r : List UInt8) (v : List (List UInt8)) : Prop := ∃ F R M D val d, DiskW w F g R M D val d ∧ Kd d r v ∧ (∀ b, F b → B ≤ b) ∧ B ≤ w.heap.size
theorem KdAt.keep {w w' : World} {B g : Nat} {r : List UInt8} {v : List (List UInt8)} (h : KdAt w B g r v) (f : Fr (fun _ => False) w w') : KdAt w' B g r v := by
  obtain ⟨F, R, M, D, val, d, h1, h2, h3, h4⟩ := h
  exact ⟨F, R, M, D, val, d, h1.keep f (fun _ _ q => q), h2, h3, Nat.le_trans h4 f.size⟩
theorem knew_any (w : World) : Calls Try.prog 15 #[.int .i64 1] w fun e w' => e = .returned (.tuple #[.pointer (some ⟨w.heap.size + 1 + 1, 0, none⟩), .int .i64 0]) ∧ KdAt w' w.heap.size (w.heap.size + 1 + 1) (nought 128) [] ∧ Fr (fun _ => False) w w' := by
  refine (new_any w (n := 1) (by omega) (by omega)).mono ?_
  rintro e w' ⟨rfl, h, f⟩
  exact ⟨rfl, ⟨_, _, _, _, _, _, h, kd_new, fun _ q => q, f.size⟩, f⟩
section
variable {w : World} {B g : Nat} {r s : List UInt8} {v : List (List UInt8)}
theorem kwrite_any (h : KdAt w B g r v) (hs : s.length = 128) (hv : v.length ≤ 10000) : Calls Try.prog 16 #[.pointer (some ⟨g, 0, none⟩), .int .i64 0, av s] w fun e w' => e = .returned (.int .i64 0) ∧ KdAt w' B g s ((if v = [] then [r] else v) ++ [s]) ∧ Fr (fun b => B ≤ b) w w' := by
  obtain ⟨F, R, M, D, val, d, h1, h2, h3, h4⟩ := h
  refine (dwrite_any h1 (i := 0) (by rw [h2.rd]; simp) hs (x := r) (by rw [h2.rd]; rfl) (by rw [h2.vs]; exact hv) h2.alive).mono ?_
  rintro e w' ⟨rfl, ⟨D', val', k⟩, f⟩
  exact ⟨rfl, ⟨_, _, _, _, _, _, k, h2.put, fun b q => q.elim (h3 b) (fun q => Nat.le_trans h4 q), Nat.le_trans h4 f.size⟩, f.mono (fun b _ q => h3 b q)⟩
theorem kflush_any (h : KdAt w B g r v) : Calls Try.prog 17 #[.pointer (some ⟨g, 0, none⟩)] w fun e w' => e = .returned (.int .i64 0) ∧ KdAt w' B g r [] ∧ Fr (fun b => B ≤ b) w w' := by
  obtain ⟨F, R, M, D, val, d, h1, h2, h3, h4⟩ := h
  refine (dflush_any h1 h2.alive).mono ?_
  rintro e w' ⟨rfl, ⟨D', k⟩, f⟩
  exact ⟨rfl, ⟨_, _, _, _, _, _, k, h2.flush, h3, Nat.le_trans h4 f.size⟩, f.mono (fun b _ q => h3 b q)⟩
theorem kread_any (h : KdAt w B g r v) : Calls Try.prog 19 #[.pointer (some ⟨g, 0, none⟩), .int .i64 0] w fun e w' => e = .returned (.tuple #[av r, .int .i64 0]) ∧ Fr (fun _ => False) w w' := by
  obtain ⟨F, R, M, D, val, d, h1, h2, h3, h4⟩ := h
  exact dread_any h1 (k := 0) (by rw [h2.rd]; rfl)
theorem kcrash_any (h : KdAt w B g r v) (hv0 : v ≠ []) (hv : v.length ≤ 10000) (p : Int) : Calls Try.prog 18 #[.pointer (some ⟨g, 0, none⟩), .slice (some ⟨w.heap.size, 0, none⟩) 1 1] (w.alloc (.cells #[.int .i64 p] 3)) fun e w' => e = .returned (.int .i64 0) ∧ KdAt w' B g (leftL v (pickN v.length p)) [] ∧ Fr (fun b => B ≤ b) (w.alloc (.cells #[.int .i64 p] 3)) w' := by
  obtain ⟨F, R, M, D, val, d, h1, h2, h3, h4⟩ := h
  have fa : Fr (fun _ => False) w (w.alloc (.cells #[.int .i64 p] 3)) := (Fr.refl _ w).alloc _
  have hb := Blk.new w 3 #[.int .i64 p]
  have hi : IntsAt (w.alloc (.cells #[.int .i64 p] 3)) (.slice (some ⟨w.heap.size, 0, none⟩) 1 1) [p] := ⟨_, 1, rfl, by simp [maxLen], fun _ => ⟨w.heap.size, 0, rfl, fun i z hz => by
    cases i with
    | zero =>
      simp only [List.getElem?_cons_zero, Option.some.injEq] at hz
      subst hz
      rw [hb.cell]
      rfl
    | succ i => simp at hz⟩⟩
  have hlt := h1.lt
  refine (dcrash_any (h1.keep fa (fun _ _ q => q)) hi (fun b hb => ?_) (fun i hi => ?_)).mono ?_
  · have : w.heap.size = b := by simpa [Value.ownBlock] using hb
    omega
  · rw [h2.rd] at hi
    have : i = 0 := by simp at hi; exact hi
    subst this
    rw [h2.vs]
    omega
  · rintro e w' ⟨rfl, ⟨D', k⟩, f⟩
    exact ⟨rfl, ⟨_, _, _, _, _, _, k, h2.crash hv0 p, h3, Nat.le_trans h4 (Nat.le_trans fa.size f.size)⟩, f.mono (fun b _ q => h3 b q)⟩
end
end Go.Proofs.Ytiobmejnamdneaa
