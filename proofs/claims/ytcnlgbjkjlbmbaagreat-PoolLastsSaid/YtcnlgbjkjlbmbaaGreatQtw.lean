/- Pools without a fuse, step by step; two that differ in their frames alone. -/
import Derived.Test.YtcnlgbjkjlbmbaaGreatQdm
namespace Go.Proofs.YtcnlgbjkjlbmbaaGreat
open Go.RowKit

def inR (x : PX) (n : Int) : Prop := 0 ≤ n ∧ n < (x.N : Int)
instance (x : PX) (n : Int) : Decidable (inR x n) := inferInstanceAs (Decidable (0 ≤ n ∧ n < (x.N : Int)))
def PX.putZ (x : PX) (n : Int) (y : List UInt8) : PX := if inR x n then x.putted n.toNat y else x
def PX.getZ (x : PX) (n : Int) : PX := if inR x n then x.got n.toNat else x
def PX.getV (x : PX) (n : Int) : List UInt8 := if inR x n then x.V n.toNat else nought 512
def PX.inE (x : PX) (n : Int) : Int := if inR x n then 0 else 2
def PX.no (x : PX) : Prop := x.m = 0 ∨ 60 < x.m ∨ x.z < x.need
instance (x : PX) : Decidable x.no := inferInstanceAs (Decidable (x.m = 0 ∨ 60 < x.m ∨ x.z < x.need))
section
variable {x y : PX} {K : Nat}
theorem inR_lt {n : Int} (h : inR x n) : n.toNat < x.N := by unfold inR at h; omega
theorem got_same (x : PX) (n : Nat) : (x.got n).N = x.N ∧ (x.got n).z = x.z ∧ (x.got n).e = x.e ∧ (x.got n).f1 = x.f1 ∧ (x.got n).f2 = x.f2 ∧ ∀ k, (x.got n).C k = x.C k := by
 unfold PX.got
 split
 · exact ⟨rfl, rfl, rfl, rfl, rfl, fun _ => rfl⟩
 · exact ⟨rfl, rfl, rfl, rfl, rfl, fun _ => rfl⟩
end
section
variable {w : World} {B p g K : Nat} {S : Nat → Prop} {x : PX}
def PP (w : World) (B : Nat) (X : Nat → Prop) (p g q g' : Nat) (x y : PX) : Prop := ∃ S S', PA w B S p g x ∧ PA w B S' q g' y ∧ (∀ b, S b → ¬ S' b) ∧ ∀ b, X b → ¬ S b ∧ ¬ S' b ∧ b < w.heap.size
variable {q g' : Nat} {y : PX} {X : Nat → Prop}
theorem PA.low {B' : Nat} (h : PA w B S p g x) (hB : B' ≤ B) : PA w B' S p g x := by
 obtain ⟨lb, M1, M2, v, P, h1, h2, h3, h4, h5, h6, h7, h8, h9, hS, hb⟩ := h
 exact ⟨lb, M1, M2, v, P, h1, h2, ⟨⟨h3.1.1, fun b q => ⟨Nat.le_trans hB (h3.1.2 b q).1, (h3.1.2 b q).2⟩⟩, h3.2⟩, h4, h5, h6, h7, h8, h9, hS, fun b q => ⟨Nat.le_trans hB (hb b q).1, (hb b q).2⟩⟩
end
end Go.Proofs.YtcnlgbjkjlbmbaaGreat

