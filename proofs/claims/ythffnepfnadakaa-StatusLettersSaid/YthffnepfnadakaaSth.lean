/- What a coupon may become: pure. -/
import Derived.Test.YthffnepfnadakaaSrw
namespace Go.Proofs.Ythffnepfnadakaa

def nextL : Nat → List Nat
  | 1 => [2, 5, 6, 7, 8, 9]
  | 2 => [1, 3]
  | 3 => [2, 4]
  | 8 => [1, 6]
  | 9 => [1, 4]
  | _ => []
def mayS (z : Int) : Bool := decide (1 ≤ z ∧ z ≤ 9)
def leadsN (a b : Nat) : Bool := (nextL a).contains b
def leadsS (a b : Int) : Bool := mayS a && mayS b && leadsN a.toNat b.toNat
def lastS (a : Int) : Bool := mayS a && (nextL a.toNat).isEmpty
def liveS (a : Int) : Bool := mayS a && !(nextL a.toNat).isEmpty
def nextS (a : Int) : List Int := if mayS a then (nextL a.toNat).map (fun (n : Nat) => (n : Int)) else []
/-- The letters, and of each status those of the ones that it leads to. -/
def rowB : Nat → List UInt8
  | 1 => [79, 67, 69, 82, 86, 83, 65]
  | 2 => [67, 79, 76]
  | 3 => [76, 67, 70]
  | 4 => [70]
  | 5 => [69]
  | 6 => [82]
  | 7 => [86]
  | 8 => [83, 79, 82]
  | 9 => [65, 79, 70]
  | _ => []
def letB (a : Nat) : List UInt8 := (rowB a).take 1
def letterS (a : Int) : List UInt8 := if mayS a then letB a.toNat else []
/-- All simple walks of some rows, each a status longer. -/
def onOne (r : List Nat) : List (List Nat) := ((List.range' 1 9).filter fun s => !r.contains s && leadsN (r.getLastD 0) s).map fun s => r ++ [s]
def onL (rows : List (List Nat)) : List (List Nat) := rows.flatMap onOne
def wayGo (b : Nat) : Nat → List (List Nat) → List Nat
  | 0, _ => []
  | k + 1, rows => match rows.find? (fun r => r.getLastD 0 == b) with
    | some r => r
    | none => wayGo b k (onL rows)
def wayL (a b : Nat) : List Nat := wayGo b 9 [[a]]
def all9 (p : Nat → Bool) : Bool := (List.range' 1 9).all p
theorem all9_of {p : Nat → Bool} (h : all9 p = true) {n : Nat} (h1 : 1 ≤ n) (h2 : n ≤ 9) : p n = true := List.all_eq_true.1 h n (by rw [List.mem_range'_1]; omega)
def stepL : List Nat → Bool
  | a :: b :: l => leadsN a b && stepL (b :: l)
  | _ => true
theorem way_ok : all9 (fun a => all9 fun b => (wayL a b).isEmpty || ((wayL a b).head? == some a && (wayL a b).getLastD 0 == b && stepL (wayL a b) && (wayL a b).eraseDups.length == (wayL a b).length && decide ((wayL a b).length ≤ 9))) = true := by decide +kernel
theorem way_self : all9 (fun a => wayL a a == [a]) = true := by decide +kernel
theorem way_open : all9 (fun b => !(wayL 1 b).isEmpty) = true := by decide +kernel
theorem way_last : all9 (fun a => !(nextL a).isEmpty || all9 fun b => (wayL a b).isEmpty || a == b) = true := by decide +kernel
theorem way_step : all9 (fun a => all9 fun c => !leadsN a c || all9 fun b => (wayL c b).isEmpty || (!(wayL a b).isEmpty && decide ((wayL a b).length ≤ (wayL c b).length + 1))) = true := by decide +kernel
theorem next_may : all9 (fun a => (nextL a).all fun b => decide (1 ≤ b ∧ b ≤ 9)) = true := by decide +kernel
theorem leads_row : all9 (fun a => all9 fun b => ((rowB a).drop 1).contains ((rowB b).getD 0 0) == leadsN a b) = true := by decide +kernel
theorem last_row : all9 (fun a => decide ((rowB a).length = 1) == (nextL a).isEmpty) = true := by decide +kernel
/-- A row of statuses is a walk, and how long it is held against the shortest. -/
theorem walk_way : ∀ (l : List Nat) (a b : Nat), 1 ≤ a → a ≤ 9 → stepL (a :: l) = true → (a :: l).getLastD 0 = b → wayL a b ≠ [] ∧ (wayL a b).length ≤ (a :: l).length
  | [], a, b, h1, h2, _, hb => by
    have : a = b := by simpa using hb
    subst this
    have := all9_of way_self h1 h2
    rw [beq_iff_eq] at this
    rw [this]
    simp
  | c :: l, a, b, h1, h2, hs, hb => by
    simp only [stepL, Bool.and_eq_true] at hs
    have hc := all9_of next_may h1 h2
    have hcm : c ∈ nextL a := by simpa [leadsN] using hs.1
    have hc2 := of_decide_eq_true (List.all_eq_true.1 hc c hcm)
    have hb2 : (c :: l).getLastD 0 = b := by rw [← hb]; simp [List.getLastD]
    obtain ⟨i1, i2⟩ := walk_way l c b hc2.1 hc2.2 hs.2 hb2
    have hst := all9_of (all9_of way_step h1 h2) hc2.1 hc2.2
    rw [hs.1] at hst
    simp only [Bool.not_true, Bool.false_or] at hst
    have hbm : 1 ≤ b ∧ b ≤ 9 := by
      have : ∀ (l : List Nat) (c : Nat), 1 ≤ c → c ≤ 9 → stepL (c :: l) = true → 1 ≤ (c :: l).getLastD 0 ∧ (c :: l).getLastD 0 ≤ 9 := by
        intro l
        induction l with
        | nil => intro c q1 q2 _; simpa using ⟨q1, q2⟩
        | cons d l ih =>
          intro c q1 q2 q3
          simp only [stepL, Bool.and_eq_true] at q3
          have hd := of_decide_eq_true (List.all_eq_true.1 (all9_of next_may q1 q2) d (by simpa [leadsN] using q3.1))
          have := ih d hd.1 hd.2 q3.2
          simpa [List.getLastD] using this
      rw [← hb2]
      exact this l c hc2.1 hc2.2 hs.2
    have hf := all9_of hst hbm.1 hbm.2
    have hne : (wayL c b).isEmpty = false := by
      cases h : wayL c b with
      | nil => exact absurd h i1
      | cons x y => rfl
    rw [hne] at hf
    simp only [Bool.false_or, Bool.and_eq_true, Bool.not_eq_true', decide_eq_true_eq] at hf
    refine ⟨fun q => by rw [q] at hf; simp at hf, ?_⟩
    have := hf.2
    simp only [List.length_cons] at i2 ⊢
    omega
end Go.Proofs.Ythffnepfnadakaa
