/- What the calls of status answer; couponlaw12's known rows, of that. -/
import Derived.Test.YthffnepfnadakaaSth
namespace Go.Proofs.Ythffnepfnadakaa
open Go.RowKit

/-- How many stand ahead of the first one to which the one ahead of it does not lead; 0: none. -/
def walkFrom : Nat → List Int → Nat
  | k, a :: b :: l => if leadsS a b then walkFrom (k + 1) (b :: l) else k
  | _, _ => 0
def walkAt (l : List Int) : Nat := walkFrom 1 l
def walkE (l : List Int) : Nat := if l.all mayS then (if walkAt l = 0 then 0 else 9) else 2
def walkN (l : List Int) : Nat := if l.all mayS then walkAt l else 0
def upN (l : List Nat) : List Int := l.map (fun (n : Nat) => (n : Int))
def wayE (a b : Int) : Nat := if mayS a && mayS b then (if (wayL a.toNat b.toNat).isEmpty then 9 else 0) else 2
def wayS (a b : Int) : List Int := if mayS a && mayS b then upN (wayL a.toNat b.toNat) else []
def ofSN (l : List UInt8) : Nat := ((List.range' 1 9).find? fun k => letB k == l).getD 0
def ofSE (l : List UInt8) : Nat := if ofSN l = 0 then 2 else 0
/-- The library's variable that Of's search reads holds a number (whichever). -/
def Mok (w : World) : Prop := ∃ m : Int, w.cell? ⟨0, 0, none⟩ = some (.int .i64 m)
theorem Mok.keep {w w' : World} (h : Mok w) (f : Fr (fun _ => False) w w') : Mok w' := by
  obtain ⟨m, hm⟩ := h
  exact ⟨m, (f.cell (World.block_lt_of_cell? w _ hm) (fun q => q)).trans hm⟩
/-- The calls of status, each by what the chapter says of it. (Each of them has to be proved of the code.) -/
structure StatusP : Prop where
  may : ∀ (n : Int) (w : World), Calls Try.prog 8 #[.int .i64 n] w fun e w' => e = .returned (.bool (mayS n)) ∧ Fr (fun _ => False) w w'
  last : ∀ (n : Int) (w : World), Calls Try.prog 10 #[.int .i64 n] w fun e w' => e = .returned (.bool (lastS n)) ∧ Fr (fun _ => False) w w'
  live : ∀ (n : Int) (w : World), Calls Try.prog 12 #[.int .i64 n] w fun e w' => e = .returned (.bool (liveS n)) ∧ Fr (fun _ => False) w w'
  leads : ∀ (a b : Int) (w : World), Calls Try.prog 13 #[.int .i64 a, .int .i64 b] w fun e w' => e = .returned (.bool (leadsS a b)) ∧ Fr (fun _ => False) w w'
  next : ∀ (a : Int) (w : World), Calls Try.prog 16 #[.int .i64 a] w fun e w' => ∃ v, e = .returned v ∧ IntsAt w' v (nextS a) ∧ Fr (fun _ => False) w w'
  walk : ∀ (w : World) (v : Value) (zs : List Int), IntsAt w v zs → zs.length ≤ 100000 → Calls Try.prog 18 #[v] w fun e w' => e = .returned (.tuple #[.int .i64 (walkN zs : Nat), .int .i64 (walkE zs : Nat)]) ∧ Fr (fun _ => False) w w'
  way : ∀ (a b : Int) (w : World), Calls Try.prog 20 #[.int .i64 a, .int .i64 b] w fun e w' => ∃ v, e = .returned (.tuple #[v, .int .i64 (wayE a b : Nat)]) ∧ IntsAt w' v (wayS a b) ∧ Fr (fun _ => False) w w'
  letter : ∀ (n : Int) (w : World), Calls Try.prog 22 #[.int .i64 n] w fun e w' => ∃ s : ByteArray, e = .returned (.string s) ∧ s.data.toList = letterS n ∧ Fr (fun _ => False) w w'
  of_ : ∀ (s : ByteArray) (w : World), Mok w → s.size ≤ 1000 → Calls Try.prog 23 #[.string s] w fun e w' => e = .returned (.tuple #[.int .i64 (ofSN s.data.toList : Nat), .int .i64 (ofSE s.data.toList : Nat)]) ∧ Fr (fun _ => False) w w'
end Go.Proofs.Ythffnepfnadakaa
