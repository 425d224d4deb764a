/- Two disks that lie apart; what each call does with one of them. -/
import Derived.Test.YtiobmejnamdneaaDat
namespace Go.Proofs.Ytiobmejnamdneaa
open Go.RowKit Go.Maps

theorem falls_most {N : Nat} : ∀ (ps : List (Nat × Int)) (d : DS), d.most N → (d.falls ps).most N
  | [], d, h => h
  | p :: ps, d, h => falls_most ps (d.left1 p) (fun j => by
      simp only [DS.left1, DS.fall]
      split
      · simp
      · exact h j)
theorem crash_most {N : Nat} {d : DS} (h : d.most N) (p : List Int) : (d.crash p).most N := falls_most _ d h
theorem crash_len {d : DS} (p : List Int) : (d.crash p).rd.length = d.rd.length := falls_len _ _
theorem crash_alive {d : DS} (p : List Int) : (d.crash p).alive = true := by simp [DS.crash, DS.alive, deadS]
theorem crash_dead {d : DS} (p : List Int) : (d.crash p).dd = false := rfl

def Both (w : World) (B g g' : Nat) (d o : DS) : Prop := ∃ P Q, DAt w B P g d ∧ DAt w B Q g' o ∧ ∀ b, P b → ¬ Q b
section
variable {w w' : World} {B g g' : Nat} {d o : DS}
theorem Both.symm (h : Both w B g g' d o) : Both w B g' g o d := by
  obtain ⟨P, Q, h1, h2, h3⟩ := h
  exact ⟨Q, P, h2, h1, fun b hb q => h3 b q hb⟩
theorem Both.keep (h : Both w B g g' d o) {G : Nat → Prop} (f : Fr G w w') (hG : ∀ b, B ≤ b → b < w.heap.size → ¬ G b) : Both w' B g g' d o := by
  obtain ⟨P, Q, h1, h2, h3⟩ := h
  exact ⟨P, Q, h1.keep f (fun b hb => hG b (h1.2 b hb).1 (h1.2 b hb).2), h2.keep f (fun b hb => hG b (h2.2 b hb).1 (h2.2 b hb).2), h3⟩
theorem Both.new (h : Both w B g g' d o) (f : Fr (fun _ => False) w w') : Both w' B g g' d o := h.keep f (fun _ _ _ q => q)
theorem Both.len (h : Both w B g g' d o) : 0 < d.rd.length ∧ d.rd.length ≤ 8192 := by
  obtain ⟨P, Q, ⟨⟨R, M, D, val, k⟩, _⟩, _⟩ := h
  exact ⟨k.n0, k.n1⟩
theorem both_write (h : Both w B g g' d o) {z : Int} {i : Nat} (hz : z = (i : Int)) (hi : i < d.rd.length) {s : List UInt8} (hs : s.length = 128) (hN : (d.vs i).length ≤ 10000) {r : Int} (hr : r = if d.alive then 0 else 10) :
    Calls Try.prog 16 #[.pointer (some ⟨g, 0, none⟩), .int .i64 z, av s] w fun e w' => e = .returned (.int .i64 r) ∧ Both w' B g g' (d.write i s) o ∧ Fr (fun b => B ≤ b) w w' := by
  obtain ⟨P, Q, h1, h2, h3⟩ := h
  subst hz hr
  refine (awrite_any h1 hi hs hN).mono ?_
  rintro e w1 ⟨rfl, ⟨P', k1, k2⟩, f1⟩
  refine ⟨rfl, ⟨P', Q, k1, h2.keep f1 (fun b hq hp => h3 b hp hq), fun b hb hq => ?_⟩, f1.mono (fun b _ hb => (h1.2 b hb).1)⟩
  rcases k2 b hb with q | q
  · exact h3 b q hq
  · have := (h2.2 b hq).2
    omega
theorem both_flush (h : Both w B g g' d o) {r : Int} (hr : r = if d.alive then 0 else 10) :
    Calls Try.prog 17 #[.pointer (some ⟨g, 0, none⟩)] w fun e w' => e = .returned (.int .i64 r) ∧ Both w' B g g' d.flushed o ∧ Fr (fun b => B ≤ b) w w' := by
  obtain ⟨P, Q, h1, h2, h3⟩ := h
  subst hr
  refine (aflush_any h1).mono ?_
  rintro e w1 ⟨rfl, k1, f1⟩
  exact ⟨rfl, ⟨P, Q, k1, h2.keep f1 (fun b hq hp => h3 b hp hq), h3⟩, f1.mono (fun b _ hb => (h1.2 b hb).1)⟩
theorem both_fuse (h : Both w B g g' d o) {k : Int} (h0 : ¬ k < 0) (hk : k ≤ 9223372036854775807) :
    Calls Try.prog 25 #[.pointer (some ⟨g, 0, none⟩), .int .i64 k] w fun e w' => e = .returned (.int .i64 0) ∧ Both w' B g g' { d with fu := true, lf := k } o ∧ Fr (fun b => B ≤ b) w w' := by
  obtain ⟨P, Q, h1, h2, h3⟩ := h
  refine (afuse_any h1 k h0 hk).mono ?_
  rintro e w1 ⟨rfl, k1, f1⟩
  exact ⟨rfl, ⟨P, Q, k1, h2.keep f1 (fun b hq hp => h3 b hp hq), h3⟩, f1.mono (fun b _ hb => (h1.2 b hb).1)⟩
theorem both_dead (h : Both w B g g' d o) : Calls Try.prog 33 #[.pointer (some ⟨g, 0, none⟩)] w fun e w' => e = .returned (.bool d.dd) ∧ w = w' := by
  obtain ⟨P, Q, h1, h2, h3⟩ := h
  exact adead_any h1
theorem both_read (h : Both w B g g' d o) {z : Int} {i : Nat} (hz : z = (i : Int)) (hi : i < d.rd.length) : Calls Try.prog 19 #[.pointer (some ⟨g, 0, none⟩), .int .i64 z] w fun e w' => e = .returned (.tuple #[av (d.rd.getD i []), .int .i64 0]) ∧ Fr (fun _ => False) w w' := by
  obtain ⟨P, Q, h1, h2, h3⟩ := h
  subst hz
  exact aread_any h1 hi
theorem both_same (h : Both w B g g' d o) :
    Calls Try.prog 10 #[.pointer (some ⟨g, 0, none⟩), .pointer (some ⟨g', 0, none⟩)] w fun e w' => ∃ b : Bool, e = .returned (.bool b) ∧ (b = true ↔ d.Like o) ∧ Fr (fun _ => False) w w' := by
  obtain ⟨P, Q, h1, h2, h3⟩ := h
  exact asame_any h1 h2
theorem both_crash (h : Both w B g g' d o) {vp : Value} {picks : List Int} (hp : IntsAt w vp picks) (hpF : ∀ b, vp.ownBlock = some b → b < B) (hN : d.most 1000000) :
    Calls Try.prog 18 #[.pointer (some ⟨g, 0, none⟩), vp] w fun e w' => e = .returned (.int .i64 0) ∧ Both w' B g g' (d.crash picks) o ∧ Fr (fun b => B ≤ b) w w' := by
  obtain ⟨P, Q, h1, h2, h3⟩ := h
  refine (acrash_any h1 hp (fun b hb q => by have := hpF b hb; have := (h1.2 b q).1; omega) hN).mono ?_
  rintro e w1 ⟨rfl, k1, f1⟩
  exact ⟨rfl, ⟨P, Q, k1, h2.keep f1 (fun b hq hp => h3 b hp hq), h3⟩, f1.mono (fun b _ hb => (h1.2 b hb).1)⟩
/-- Behind two calls of begin. -/
theorem both_of {B1 : Nat} {P Q : Nat → Prop} (h : DAt w B P g d) (k : DAt w B1 Q g' o) (hb : B ≤ B1) (hP : ∀ b, P b → b < B1) : Both w B g g' d o :=
  ⟨P, Q, h, ⟨k.1, fun b hq => ⟨Nat.le_trans hb (k.2 b hq).1, (k.2 b hq).2⟩⟩, fun b hp hq => by have := hP b hp; have := (k.2 b hq).1; omega⟩
end
/-- Frames from the law's own memory on. -/
theorem Fr.on {W w w' : World} {B : Nat} (h : Fr (fun _ => False) W w) (f : Fr (fun b => B ≤ b) w w') (hB : B = W.heap.size) : Fr (fun _ => False) W w' := h.trans f (fun b hb q => by omega)
end Go.Proofs.Ytiobmejnamdneaa
