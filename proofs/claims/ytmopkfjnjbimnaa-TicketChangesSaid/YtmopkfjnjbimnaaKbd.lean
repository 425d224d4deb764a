/- Kbd: laid together out of Sin Srw Sth Spr Sll Stm. -/
import Derived.Deep.Slices
import Derived.Lib.SmallJoins
import Derived.Great.BuildSlice
import Derived.Test.YtmopkfjnjbimnaaKbc
namespace Go.Proofs.Ytmopkfjnjbimnaa
open Go.ChangeShapes Go.WideShapes Go.ChangeAt Go.RowKit

/-- A list of numbers, read from memory. -/
def IntsAt (w : World) (v : Value) (zs : List Int) : Prop := ∃ A c, v = .slice A zs.length c ∧ zs.length ≤ maxLen ∧ (0 < zs.length → ∃ b off, A = some ⟨b, off, none⟩ ∧ ∀ (i : Nat) (z : Int), zs[i]? = some z → w.cell? ⟨b, off + i, none⟩ = some (.int .i64 z))
section
variable {H : Type} {enc : TypeId × Value → H} {w : World}
set_option maxRecDepth 100000 in
theorem plain_addr {a : Addr} {v : Value} (h : w.cell? a = some v) : a = ⟨a.block, a.off, none⟩ := by
  unfold World.cell? at h
  split at h
  · cases hsp : a.spot with
    | none => cases a; simp_all
    | some q => rw [hsp] at h; simp at h
  · cases h
set_option maxRecDepth 100000 in
theorem list_of {α : Type} {Q : Nat → α → Prop} : ∀ m, (∀ i, i < m → ∃ p, Q i p) → ∃ xs : List α, xs.length = m ∧ ∀ i x, xs[i]? = some x → Q i x
  | 0, _ => ⟨[], rfl, fun i x h => by simp at h⟩
  | m + 1, h => by
    obtain ⟨xs, hl, hx⟩ := list_of m (fun i hi => h i (by omega))
    obtain ⟨p, hp⟩ := h m (by omega)
    refine ⟨xs ++ [p], by simp [hl], fun i x hix => ?_⟩
    rw [List.getElem?_append] at hix
    split at hix
    · exact hx i x hix
    · rename_i hge
      have : i - xs.length = 0 := by
        rcases Nat.eq_zero_or_pos (i - xs.length) with e | e
        · exact e
        · rw [List.getElem?_eq_none (by simp; omega)] at hix; cases hix
      rw [this] at hix
      have e : i = m := by omega
      subst e
      simp at hix
      rw [← hix]
      exact hp
set_option maxRecDepth 100000 in
theorem add_plain (b off n : Nat) : (⟨b, off, none⟩ : Addr).add n = ⟨b, off + n, none⟩ := by
  unfold Addr.add
  split <;> simp_all
set_option maxRecDepth 100000 in
theorem i64_of_wf {a : Int} (h : (Lit.int .i64 a).wf = true) : -9223372036854775808 ≤ a ∧ a ≤ 9223372036854775807 := by
  simpa [Lit.wf, IntKind.min, IntKind.max, IntKind.signed, IntKind.bits] using h
set_option maxRecDepth 100000 in
theorem cells_sts : Try.prog.cellsOf 41 = 1 := by kernel_rfl
set_option maxRecDepth 100000 in
theorem open_sts_cell {fuel : Nat} {cs : List Value} {x : DataW H × List MemPlace} (hf : DataW.trod enc Try.prog w 0 (fun _ => true) true fuel 52 cs = some x) : ∃ v picks, cs = [v] ∧ IntsAt w v picks ∧ (∀ z ∈ picks, -9223372036854775808 ≤ z ∧ z ≤ 9223372036854775807) ∧ (∀ b, v.ownBlock = some b → 0 < picks.length → b < w.heap.size) := by
  rcases open_ints Try.underlying52 Try.underlying41 cells_sts hf with ⟨rfl, _⟩ | ⟨a, len0, cap0, zs, rfl, _, hl, hc, hz, _, hcell, hwf⟩
  · exact ⟨_, [], rfl, ⟨none, 0, rfl, Nat.zero_le _, fun q => by simp at q⟩, fun z hz => by simp at hz, fun b hb q => by simp at q⟩
  · simp only [if_true] at hz
    have hlt : (zs.take len0).length = len0 := by rw [List.length_take]; omega
    have hin : ∀ z ∈ zs.take len0, -9223372036854775808 ≤ z ∧ z ≤ 9223372036854775807 := fun z hz1 => i64_of_wf (hwf z (List.mem_of_mem_take hz1))
    rcases Nat.eq_zero_or_pos len0 with rfl | hpos
    · exact ⟨_, zs.take 0, rfl, ⟨some a, cap0, by rw [hlt], by rw [hlt]; omega, fun q => by rw [hlt] at q; omega⟩, hin, fun b hb q => by rw [hlt] at q; omega⟩
    have h0 := hcell 0 (by omega)
    have e0 : a.add 0 = a := by simp [Addr.add]
    rw [e0] at h0
    have hpl := plain_addr (a := a) h0
    obtain ⟨b, off, sp⟩ := a
    obtain rfl : sp = none := by injection hpl
    refine ⟨_, zs.take len0, rfl, ⟨some ⟨b, off, none⟩, cap0, by rw [hlt], by rw [hlt]; omega, fun q => ?_⟩, hin, fun b' hb q => ?_⟩
    · refine ⟨b, off, rfl, fun i z hi => ?_⟩
      rw [List.getElem?_take] at hi
      split at hi
      · rename_i hil
        have h1 := hcell i (by omega)
        rw [add_plain] at h1
        rw [h1, List.getD_eq_getElem?_getD, hi]
        rfl
      · cases hi
    · have := World.block_lt_of_cell? w _ h0
      have hb2 : b = b' := by simpa [Value.ownBlock] using hb
      rw [← hb2]
      exact this
set_option maxRecDepth 100000 in
theorem open_sts {v : Value} {d : DataW H} {p : List MemPlace} (hval : ∃ a len cap, v = .slice a len cap) (h : DataW.Trod enc Try.prog w 0 (fun _ => true) true 52 v d p) : ∃ picks, IntsAt w v picks ∧ ∀ z ∈ picks, -9223372036854775808 ≤ z ∧ z ≤ 9223372036854775807 := by
  obtain ⟨a0, len0, cap0, rfl⟩ := hval
  obtain ⟨fuel, hf⟩ := h
  obtain ⟨v, picks, e, h1, h2, _⟩ := open_sts_cell hf
  have e' : v = .slice a0 len0 cap0 := by simp [Value.cells] at e; exact e.symm
  subst e'
  exact ⟨picks, h1, h2⟩
set_option maxRecDepth 100000 in
theorem cells_ints : Try.prog.cellsOf 3 = 1 := by kernel_rfl
end
set_option maxRecDepth 100000 in
theorem wrap64_id {z : Int} (h0 : -4611686018427387904 ≤ z) (h1 : z ≤ 4611686018427387904) : wrap64 z = z := by unfold wrap64; omega
set_option maxRecDepth 100000 in
theorem wrapI_id {z : Int} (h0 : -4611686018427387904 ≤ z) (h1 : z ≤ 4611686018427387904) : IntKind.i64.wrap z = z := by simp [IntKind.wrap, IntKind.signed, IntKind.bits]; omega
set_option maxRecDepth 100000 in
theorem IntsAt.new {w w' : World} {v : Value} {zs : List Int} (h : IntsAt w v zs) {F : Nat → Prop} (f : Fr F w w') (hF : ∀ k, v.ownBlock = some k → ¬ F k) : IntsAt w' v zs := by
  obtain ⟨A, c, rfl, hc, hA⟩ := h
  refine ⟨A, c, rfl, hc, fun hp => ?_⟩
  obtain ⟨b, off, rfl, hcell⟩ := hA hp
  refine ⟨b, off, rfl, fun i z hi => ?_⟩
  have h1 := hcell i z hi
  exact (f.cell (World.block_lt_of_cell? w _ h1) (hF b rfl)).trans h1
set_option maxRecDepth 100000 in
theorem IntsAt.new0 {w w' : World} {v : Value} {zs : List Int} (h : IntsAt w v zs) (f : Fr (fun _ => False) w w') : IntsAt w' v zs := h.new f (fun _ _ q => q)
end Go.Proofs.Ytmopkfjnjbimnaa

namespace Go.Proofs.Ytmopkfjnjbimnaa
open Go.RowKit

set_option maxRecDepth 100000 in
theorem infoSt : (Try.prog.info? 41).map (fun i => (i.zero, i.size, i.bytes)) = some (some (.int .i64 0), 1, 8) := by kernel_rfl
/-- A list of numbers of one's own. -/
def RowS (w : World) (B : Nat) (v : Value) (l : List Int) : Prop := w.ownsRow B 41 1 v l.length (l.map (Value.int .i64))
set_option maxRecDepth 100000 in
theorem RowS.nil (w : World) (B : Nat) : RowS w B (.slice none 0 0) [] := World.ownsRow_nil _ _ _ _
set_option maxRecDepth 100000 in
theorem RowS.keep {w w' : World} {B : Nat} {v : Value} {l : List Int} (h : RowS w B v l) {F : Nat → Prop} (f : Fr F w w') (hF : ∀ k, v.ownBlock = some k → ¬ F k) : RowS w' B v l := own_keep h f hF
set_option maxRecDepth 100000 in
theorem RowS.keep0 {w w' : World} {B : Nat} {v : Value} {l : List Int} (h : RowS w B v l) (f : Fr (fun _ => False) w w') : RowS w' B v l := own_keep h f (fun _ _ q => q)
set_option maxRecDepth 100000 in
theorem RowS.low {w : World} {B k : Nat} {v : Value} {l : List Int} (h : RowS w B v l) (hk : v.ownBlock = some k) : B ≤ k := by
  obtain ⟨-, h | ⟨b, c, cs, rfl, h1, -⟩⟩ := h
  · obtain ⟨rfl, -⟩ := h
    cases hk
  · injection hk with hk
    subst hk
    exact h1
set_option maxRecDepth 100000 in
theorem RowS.cell {w : World} {B i : Nat} {v : Value} {l : List Int} {z : Int} (h : RowS w B v l) (hz : l[i]? = some z) : ∃ g cap, v = .slice (some ⟨g, 0, none⟩) l.length cap ∧ w.cell? ⟨g, i, none⟩ = some (.int .i64 z) := by
  have hu : (l.map (Value.int .i64))[i]? = some (.int .i64 z) := by rw [List.getElem?_map, hz]; rfl
  obtain ⟨h1, ⟨rfl, h0⟩ | ⟨g, cap, cur, rfl, hb, hg, hc1, hc2, hc3, hc4⟩⟩ := h
  · have : l = [] := List.length_eq_zero_iff.1 (by omega)
    rw [this] at hz
    cases hz
  · refine ⟨g, cap, rfl, ?_⟩
    have hi : i < l.length * 1 := by rw [Nat.mul_one]; exact (List.getElem?_eq_some_iff.1 hz).1
    rw [← hc4, List.getElem?_take_of_lt hi, Array.getElem?_toList] at hu
    rw [cell_of_row w g i cur _ _ hg]
    exact hu
set_option maxRecDepth 100000 in
theorem RowS.slice {w : World} {B : Nat} {v : Value} {l : List Int} (h : RowS w B v l) : ∃ A c, v = .slice A l.length c ∧ l.length ≤ maxLen := by
  obtain ⟨A, c, e, h1, h2⟩ := own_slice h
  exact ⟨A, c, e, by omega⟩
set_option maxRecDepth 100000 in
theorem RowS.frozen {w : World} {B i g n cap : Nat} {l : List Int} (h : RowS w B (.slice (some ⟨g, 0, none⟩) n cap) l) : w.frozen? ⟨g, i, none⟩ = false := by
  obtain ⟨h1, ⟨h0, _⟩ | ⟨g', cap', cur, e, hb, hg, _⟩⟩ := h
  · cases h0
  · injection e with e
    injection e with e
    injection e with e
    subst e
    simp [World.frozen?, hg]
set_option maxRecDepth 100000 in
theorem RowS.ints {w : World} {B : Nat} {v : Value} {l : List Int} (h : RowS w B v l) : IntsAt w v l := by
  obtain ⟨A, c, e, hl⟩ := h.slice
  refine ⟨A, c, e, hl, fun hp => ?_⟩
  obtain ⟨z, hz⟩ : ∃ z, l[0]? = some z := ⟨_, List.getElem?_eq_getElem hp⟩
  obtain ⟨g, cap, e2, _⟩ := h.cell hz
  rw [e] at e2
  injection e2 with e3
  subst e3
  refine ⟨g, 0, rfl, fun i z hi => ?_⟩
  obtain ⟨g', cap', e4, h4⟩ := h.cell hi
  rw [e] at e4
  injection e4 with e5
  injection e5 with e5
  injection e5 with e5
  rw [Nat.zero_add, e5]
  exact h4
set_option maxRecDepth 100000 in
theorem RowS.set {w : World} {B i g n cap : Nat} {l : List Int} (h : RowS w B (.slice (some ⟨g, 0, none⟩) n cap) l) (hi : i < l.length) (z : Int) : RowS (w.setCell ⟨g, i, none⟩ (.int .i64 z)) B (.slice (some ⟨g, 0, none⟩) n cap) (l.set i z) := by
  obtain ⟨h1, ⟨h0, _⟩ | ⟨g', cap', cur, e, hb, hg, hc1, hc2, hc3, hc4⟩⟩ := h
  · cases h0
  · obtain ⟨e1, e2, e3⟩ : g = g' ∧ n = l.length ∧ cap = cap' := by
      injection e with a b c
      injection a with a
      injection a with a
      exact ⟨a, b, c⟩
    subst e1 e3
    refine ⟨by simp, .inr ⟨g, cap, cur.setIfInBounds i (.int .i64 z), by simp [e2], hb, ?_, by simpa using hc1, hc2, by simpa using hc3, ?_⟩⟩
    · exact Blk.set_ (w := w) (g := g) (t := 41) (cs := cur) hg i (.int .i64 z)
    · rw [Array.toList_setIfInBounds, List.length_set, List.take_set, hc4, List.map_set]
set_option maxRecDepth 100000 in
theorem RowS.set' {w : World} {B i g : Nat} {v : Value} {l : List Int} (h : RowS w B v l) (hne : v.ownBlock ≠ some g) (z : Value) : RowS (w.setCell ⟨g, i, none⟩ z) B v l :=
  h.keep (F := fun k => k = g) ((Fr.refl (fun k => k = g) w).setCell (p := ⟨g, i, none⟩) (.inl rfl) z) (fun k hk e => hne (by rw [hk, e]))
set_option maxRecDepth 100000 in
theorem slice_of_st (u : Int) (w : World) : (Instr.buildSlice 52 1 #[(0, .int .i64 u)]).run Try.prog w = .ok (.slice (some ⟨w.heap.size, 0, none⟩) 1 1) (w.alloc (.cells #[.int .i64 u] 41)) := by
  obtain ⟨i0, hi, hz0, hz1, hz2⟩ := info_parts infoSt
  refine run_buildSlice w 52 41 1 _ _ i0 _ Try.underlying52 hi hz0 (by rw [hz1]; omega) (by rw [hz1]; omega) ?_
  rw [hz1]
  have hb : ((Array.range (1 * 1)).map ((Value.int .i64 0).cells[· % (Value.int .i64 0).cells.size]!)) = #[Value.int .i64 0] := by
    apply Array.ext
    · simp
    · intro i h1 h2
      simp at h1
      simp [Value.cells, h1]
  rw [hb]
  simp [Instr.fill, Value.cells]
section
variable {ops : Array Oper} {o : Oper} {a : Act} {Q : Exit → Act → World → Prop}
set_option maxRecDepth 100000 in
theorem wpList_push_st {rest : List Oper} {w : World} (hg : o.guard = none) (s x : Operand) (hop : o.op = Op.call { callee := Callee.builtin Builtin.append, args := #[s, x], argTypes := #[52, 52] }) {v : Value} {base : Nat} {l : List Int} (hs : a.eval s = v)
    (hown : RowS w base v l) {g : Nat} {u : Int} (hx : a.eval x = .slice (some ⟨g, 0, none⟩) 1 1) (hu : w.cell? ⟨g, 0, none⟩ = some (.int .i64 u)) (hn : l.length ≤ 100000) (hb : base ≤ w.heap.size)
    (hK : ∀ v' w', RowS w' base v' (l ++ [u]) → w.grownBy w' v.ownBlock → (v'.ownBlock = v.ownBlock ∨ v'.ownBlock = some w.heap.size) → wpList Try.prog ops Q rest (a.put o.dst v') w') : wpList Try.prog ops Q (o :: rest) a w := by
  refine wpList_plain hg fun K' hK' => ?_
  obtain ⟨i0, hi, hz0, hz1, hz2⟩ := info_parts infoSt
  obtain ⟨v', w', hrun, ho', hgr, _, hat⟩ := run_append_own_at (P := Try.prog) w base 52 o.type 41 i0 (.int .i64 0) 1 8 Try.underlying52 hi hz0 hz1 hz2 rfl (by omega) v l.length (l.map (Value.int .i64)) hown ⟨g, 0, none⟩ 1 1 [.int .i64 u] rfl (fun j q hj => by
      cases j with
      | zero => simp at hj; subst hj; rw [add_plain]; exact hu
      | succ j => simp at hj) (fun q hq => by rw [List.mem_singleton.1 hq]; rfl) (by simp only [maxLen]; omega) (by omega) hb
  unfold Oper.wp
  simp [execOp, hop, resolve, invoke, builtin, hs, hx, hrun, Result.andThen]
  refine hK' _ _ (hK v' w' ?_ hgr hat)
  unfold RowS
  rw [List.length_append, List.map_append]
  exact ho'
end
end Go.Proofs.Ytmopkfjnjbimnaa

namespace Go.Proofs.Ytmopkfjnjbimnaa

def nextL : Nat → List Nat
  | 1 => [2, 5, 6, 7, 8, 9]
  | 2 => [1, 3]
  | 3 => [2, 4]
  | 8 => [1, 6]
  | 9 => [1, 4]
  | _ => []
def mayS (z : Int) : Bool := decide (1 ≤ z ∧ z ≤ 9)
def leadsN (a b : Nat) : Bool := (nextL a).contains b
def leadsS (a b : Int) : Bool := mayS a && mayS b && leadsN a.toNat b.toNat
def lastS (a : Int) : Bool := mayS a && (nextL a.toNat).isEmpty
def liveS (a : Int) : Bool := mayS a && !(nextL a.toNat).isEmpty
def nextS (a : Int) : List Int := if mayS a then (nextL a.toNat).map (fun (n : Nat) => (n : Int)) else []
/-- The letters, and of each status those of the ones that it leads to. -/
def rowB : Nat → List UInt8
  | 1 => [79, 67, 69, 82, 86, 83, 65]
  | 2 => [67, 79, 76]
  | 3 => [76, 67, 70]
  | 4 => [70]
  | 5 => [69]
  | 6 => [82]
  | 7 => [86]
  | 8 => [83, 79, 82]
  | 9 => [65, 79, 70]
  | _ => []
def letB (a : Nat) : List UInt8 := (rowB a).take 1
def letterS (a : Int) : List UInt8 := if mayS a then letB a.toNat else []
/-- All simple walks of some rows, each a status longer. -/
def onOne (r : List Nat) : List (List Nat) := ((List.range' 1 9).filter fun s => !r.contains s && leadsN (r.getLastD 0) s).map fun s => r ++ [s]
def onL (rows : List (List Nat)) : List (List Nat) := rows.flatMap onOne
def wayGo (b : Nat) : Nat → List (List Nat) → List Nat
  | 0, _ => []
  | k + 1, rows => match rows.find? (fun r => r.getLastD 0 == b) with
    | some r => r
    | none => wayGo b k (onL rows)
def wayL (a b : Nat) : List Nat := wayGo b 9 [[a]]
def all9 (p : Nat → Bool) : Bool := (List.range' 1 9).all p
set_option maxRecDepth 100000 in
theorem all9_of {p : Nat → Bool} (h : all9 p = true) {n : Nat} (h1 : 1 ≤ n) (h2 : n ≤ 9) : p n = true := List.all_eq_true.1 h n (by rw [List.mem_range'_1]; omega)
def stepL : List Nat → Bool
  | a :: b :: l => leadsN a b && stepL (b :: l)
  | _ => true
set_option maxRecDepth 100000 in
theorem way_ok : all9 (fun a => all9 fun b => (wayL a b).isEmpty || ((wayL a b).head? == some a && (wayL a b).getLastD 0 == b && stepL (wayL a b) && (wayL a b).eraseDups.length == (wayL a b).length && decide ((wayL a b).length ≤ 9))) = true := by decide +kernel
set_option maxRecDepth 100000 in
theorem way_self : all9 (fun a => wayL a a == [a]) = true := by decide +kernel
set_option maxRecDepth 100000 in
theorem way_open : all9 (fun b => !(wayL 1 b).isEmpty) = true := by decide +kernel
set_option maxRecDepth 100000 in
theorem way_last : all9 (fun a => !(nextL a).isEmpty || all9 fun b => (wayL a b).isEmpty || a == b) = true := by decide +kernel
set_option maxRecDepth 100000 in
theorem way_step : all9 (fun a => all9 fun c => !leadsN a c || all9 fun b => (wayL c b).isEmpty || (!(wayL a b).isEmpty && decide ((wayL a b).length ≤ (wayL c b).length + 1))) = true := by decide +kernel
set_option maxRecDepth 100000 in
theorem next_may : all9 (fun a => (nextL a).all fun b => decide (1 ≤ b ∧ b ≤ 9)) = true := by decide +kernel
set_option maxRecDepth 100000 in
theorem leads_row : all9 (fun a => all9 fun b => ((rowB a).drop 1).contains ((rowB b).getD 0 0) == leadsN a b) = true := by decide +kernel
set_option maxRecDepth 100000 in
theorem last_row : all9 (fun a => decide ((rowB a).length = 1) == (nextL a).isEmpty) = true := by decide +kernel
set_option maxRecDepth 100000 in
/-- A row of statuses is a walk, and how long it is held against the shortest. -/
theorem walk_way : ∀ (l : List Nat) (a b : Nat), 1 ≤ a → a ≤ 9 → stepL (a :: l) = true → (a :: l).getLastD 0 = b → wayL a b ≠ [] ∧ (wayL a b).length ≤ (a :: l).length
  | [], a, b, h1, h2, _, hb => by
    have : a = b := by simpa using hb
    subst this
    have := all9_of way_self h1 h2
    rw [beq_iff_eq] at this
    rw [this]
    simp
  | c :: l, a, b, h1, h2, hs, hb => by
    simp only [stepL, Bool.and_eq_true] at hs
    have hc := all9_of next_may h1 h2
    have hcm : c ∈ nextL a := by simpa [leadsN] using hs.1
    have hc2 := of_decide_eq_true (List.all_eq_true.1 hc c hcm)
    have hb2 : (c :: l).getLastD 0 = b := by rw [← hb]; simp [List.getLastD]
    obtain ⟨i1, i2⟩ := walk_way l c b hc2.1 hc2.2 hs.2 hb2
    have hst := all9_of (all9_of way_step h1 h2) hc2.1 hc2.2
    rw [hs.1] at hst
    simp only [Bool.not_true, Bool.false_or] at hst
    have hbm : 1 ≤ b ∧ b ≤ 9 := by
      have : ∀ (l : List Nat) (c : Nat), 1 ≤ c → c ≤ 9 → stepL (c :: l) = true → 1 ≤ (c :: l).getLastD 0 ∧ (c :: l).getLastD 0 ≤ 9 := by
        intro l
        induction l with
        | nil => intro c q1 q2 _; simpa using ⟨q1, q2⟩
        | cons d l ih =>
          intro c q1 q2 q3
          simp only [stepL, Bool.and_eq_true] at q3
          have hd := of_decide_eq_true (List.all_eq_true.1 (all9_of next_may q1 q2) d (by simpa [leadsN] using q3.1))
          have := ih d hd.1 hd.2 q3.2
          simpa [List.getLastD] using this
      rw [← hb2]
      exact this l c hc2.1 hc2.2 hs.2
    have hf := all9_of hst hbm.1 hbm.2
    have hne : (wayL c b).isEmpty = false := by
      cases h : wayL c b with
      | nil => exact absurd h i1
      | cons x y => rfl
    rw [hne] at hf
    simp only [Bool.false_or, Bool.and_eq_true, Bool.not_eq_true', decide_eq_true_eq] at hf
    refine ⟨fun q => by rw [q] at hf; simp at hf, ?_⟩
    have := hf.2
    simp only [List.length_cons] at i2 ⊢
    omega
end Go.Proofs.Ytmopkfjnjbimnaa

namespace Go.Proofs.Ytmopkfjnjbimnaa
open Go.RowKit

def upN (l : List Nat) : List Int := l.map (fun (n : Nat) => (n : Int))
end Go.Proofs.Ytmopkfjnjbimnaa

namespace Go.Proofs.Ytmopkfjnjbimnaa
open Go.RowKit

set_option maxRecDepth 100000 in
theorem infoSs : (Try.prog.info? 52).map (fun i => (i.zero, i.size, i.bytes)) = some (some (.slice none 0 0), 1, 24) := by kernel_rfl
/-- Values that are rows of statuses, from the block base on, in none that is 'own'. -/
def ElsS (w : World) (base : Nat) (own : Option Nat) (vs : List Value) (ls : List (List Nat)) : Prop :=
  vs.length = ls.length ∧ ∀ (i : Nat) l, ls[i]? = some l → ∃ u, vs[i]? = some u ∧ IntsAt w u (upN l) ∧ ∀ b, u.ownBlock = some b → base ≤ b ∧ own ≠ some b ∧ b < w.heap.size
def LstS (w : World) (base : Nat) (v : Value) (ls : List (List Nat)) : Prop := ∃ vs, w.ownsRow base 52 1 v ls.length vs ∧ ElsS w base v.ownBlock vs ls
set_option maxRecDepth 100000 in
theorem ElsS.keep {F : Nat → Prop} {w w' : World} {base : Nat} {own : Option Nat} {vs : List Value} {ls : List (List Nat)} (h : ElsS w base own vs ls) (f : Fr F w w') (hF : ∀ j, base ≤ j → some j ≠ own → ¬ F j) : ElsS w' base own vs ls := by
  refine ⟨h.1, fun i l hi => ?_⟩
  obtain ⟨u, h1, h2, h3⟩ := h.2 i l hi
  exact ⟨u, h1, h2.new f (fun b hb => hF b (h3 b hb).1 (fun q => (h3 b hb).2.1 q.symm)), fun b hb => ⟨(h3 b hb).1, (h3 b hb).2.1, Nat.lt_of_lt_of_le (h3 b hb).2.2 f.size⟩⟩
set_option maxRecDepth 100000 in
theorem LstS.new {w w' : World} {base : Nat} {v : Value} {ls : List (List Nat)} (h : LstS w base v ls) (f : Fr (fun _ => False) w w') : LstS w' base v ls := by
  obtain ⟨vs, h1, h2⟩ := h
  exact ⟨vs, own_keep h1 f (fun _ _ q => q), h2.keep f (fun _ _ _ q => q)⟩
set_option maxRecDepth 100000 in
theorem LstS.nil (w : World) (base : Nat) : LstS w base (.slice none 0 0) [] := ⟨[], World.ownsRow_nil _ _ _ _, rfl, fun i l hi => by simp at hi⟩
set_option maxRecDepth 100000 in
theorem LstS.form {w : World} {base : Nat} {v : Value} {ls : List (List Nat)} (h : LstS w base v ls) : ∃ A c, v = .slice A ls.length c ∧ ls.length ≤ maxLen := by
  obtain ⟨vs, h1, _⟩ := h
  obtain ⟨A, c, e, h2, h3⟩ := own_slice h1
  exact ⟨A, c, e, by omega⟩
set_option maxRecDepth 100000 in
theorem LstS.at_ {w : World} {base : Nat} {v : Value} {ls : List (List Nat)} (h : LstS w base v ls) {i : Nat} {l : List Nat} (hi : ls[i]? = some l) : ∃ g cap u, v = .slice (some ⟨g, 0, none⟩) ls.length cap ∧ w.cell? ⟨g, i, none⟩ = some u ∧ IntsAt w u (upN l) := by
  obtain ⟨vs, h1, h2⟩ := h
  obtain ⟨u, hu, h3, h4⟩ := h2.2 i l hi
  obtain ⟨hl, ⟨rfl, h0⟩ | ⟨g, cap, cur, rfl, hb, hg, hc1, hc2, hc3, hc4⟩⟩ := h1
  · have := (List.getElem?_eq_some_iff.1 hi).1
    omega
  · refine ⟨g, cap, u, rfl, ?_, h3⟩
    have hil : i < ls.length * 1 := by rw [Nat.mul_one]; exact (List.getElem?_eq_some_iff.1 hi).1
    rw [← hc4, List.getElem?_take_of_lt hil, Array.getElem?_toList] at hu
    rw [cell_of_row w g i cur _ _ hg]
    exact hu
end Go.Proofs.Ytmopkfjnjbimnaa

namespace Go.Proofs.Ytmopkfjnjbimnaa
open Go.RowKit

section
variable {P : Program} {ops : Array Oper} {Q : Exit → Act → World → Prop} {md : Region.Mode} {S : World → Prop}

/-- The operation i answers v, in whatever memory of S, and leaves memory of S. -/
def Tame (P : Program) (ops : Array Oper) (Q : Exit → Act → World → Prop) (S : World → Prop) (i : Nat) (d : Tmp) (v : Value) (T : Array Value) (ds : List Deferred) : Prop :=
  ∀ w, S w → ∀ K : Act → World → Prop, (∀ w', S w' → K { tmps := T.setIfInBounds d v, defers := ds } w') → wpOp P ops Q i K { tmps := T, defers := ds } w
set_option maxRecDepth 100000 in
theorem tame_call {i : Nat} {o : Oper} {T : Array Value} {ds : List Deferred} {f : FuncId} {args : Array Value} {v : Value} (d : Tmp) (ho : ops[i]? = some o) (hd : o.dst = some d) (hw : Region.wanted o (yielded ops T) = true)
    (hr : ∀ w, S w → (execOp (Act.eval { tmps := T, defers := ds }) o).run P w = .ok (.enter f args) w) (h : ∀ w, S w → Calls P f args w fun e w' => e = .returned v ∧ S w') : Tame P ops Q S i d v T ds := fun w hS K hK =>
  wpOp_call d ho hd hw (hr w hS) ((h w hS).mono fun e w' he => ⟨v, he.1, hK w' he.2⟩)
set_option maxRecDepth 100000 in
theorem anyH_one (i : Nat) (d : Tmp) (v : Value) {fuel : Nat} {listed : Array Bool} {T : Array Value} {ds : List Deferred} {w : World} (hr : Region.ready md ops listed = [i])
    (ht : Tame P ops Q S i d v T ds) (hS : S w) (h : ∀ w', S w' → wpAnyH P md ops Q S fuel (listed.setIfInBounds i true) { tmps := T.setIfInBounds d v, defers := ds } w') : wpAnyH P md ops Q S (fuel + 1) listed { tmps := T, defers := ds } w := by
  refine wpAnyH_all hr (by simp) fun j hj => ?_
  obtain rfl := List.mem_singleton.1 hj
  exact ht w hS _ fun w' hS' => ⟨hS', h w' hS'⟩
set_option maxRecDepth 100000 in
theorem anyH_two (i j : Nat) (di dj : Tmp) (vi vj : Value) {fuel : Nat} {listed : Array Bool} {T : Array Value} {ds : List Deferred} {w : World} (hij : i ≠ j) (hd : di ≠ dj)
    (hr : Region.ready md ops listed = [i, j]) (hri : Region.ready md ops (listed.setIfInBounds i true) = [j]) (hrj : Region.ready md ops (listed.setIfInBounds j true) = [i])
    (ti : ∀ T', T' = T ∨ T' = T.setIfInBounds dj vj → Tame P ops Q S i di vi T' ds) (tj : ∀ T', T' = T ∨ T' = T.setIfInBounds di vi → Tame P ops Q S j dj vj T' ds) (hS : S w)
    (h : ∀ w', S w' → wpAnyH P md ops Q S fuel ((listed.setIfInBounds i true).setIfInBounds j true) { tmps := (T.setIfInBounds di vi).setIfInBounds dj vj, defers := ds } w') : wpAnyH P md ops Q S (fuel + 1 + 1) listed { tmps := T, defers := ds } w := by
  refine wpAnyH_all hr (by simp) fun q hq => ?_
  simp only [List.mem_cons, List.not_mem_nil, or_false] at hq
  rcases hq with rfl | rfl
  · refine ti T (.inl rfl) w hS _ fun w' hS' => ⟨hS', ?_⟩
    exact anyH_one j dj vj hri (tj _ (.inr rfl)) hS' h
  · refine tj T (.inl rfl) w hS _ fun w' hS' => ⟨hS', ?_⟩
    refine anyH_one i di vi hrj (ti _ (.inr rfl)) hS' fun w'' hS'' => ?_
    have e1 : (listed.setIfInBounds q true).setIfInBounds i true = (listed.setIfInBounds i true).setIfInBounds q true := Array.setIfInBounds_comm _ _ (Ne.symm hij)
    have e2 : (T.setIfInBounds dj vj).setIfInBounds di vi = (T.setIfInBounds di vi).setIfInBounds dj vj := Array.setIfInBounds_comm _ _ (Ne.symm hd)
    rw [e1, e2]
    exact h w'' hS''
end
end Go.Proofs.Ytmopkfjnjbimnaa

