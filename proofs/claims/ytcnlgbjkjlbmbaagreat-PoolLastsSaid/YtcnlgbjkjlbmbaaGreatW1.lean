/- W1: laid together out of Base Cut Arr Clo Hd Tag Con It Rnd Pie Ina. -/
import Derived.WalkKit
import Derived.Deep.Draws
import Derived.Maps.AppendAt
import Derived.Lib.Hide
import Derived.Laws.IdiomStrings
import Derived.Laws.BytesArg
import Derived.Test.YtcnlgbjkjlbmbaaGreatRows
import Derived.Deep.MidRow
import Derived.BigQuiet
import Derived.Deep.QuietTactic
import Derived.Deep.RegionHeld3
import Derived.RangeFuncNested
import Derived.RangeFuncBound
import Derived.RangeFuncCalls
import Derived.RangeFuncLeaves
import Derived.RangeFuncBox
import Derived.OwnWalkIn
import Derived.TacticsInMore
import Derived.LoopNIn
import Derived.LoopIn
import Derived.OrdersIn
import Derived.OrdersHeld
import Derived.Laws.MakeOwn
namespace Go.Proofs.YtcnlgbjkjlbmbaaGreat
theorem sA {α : Type} (l : List α) (i : Nat) (a : α) : l.toArray.setIfInBounds i a = (l.set i a).toArray := by simp
theorem sB {α : Type} (x : α) (l : List α) (a : α) : (x :: l).set 0 a = a :: l := rfl
theorem sC {α : Type} (x : α) (l : List α) (i : Nat) (a : α) : (x :: l).set (i + 1) a = x :: l.set i a := rfl
open Go.RowKit

structure Fr (F : Nat → Prop) (w w' : World) : Prop where
 os : w'.os = w.os
 tape : w'.tape = w.tape
 output : w'.output = w.output
 size : w.heap.size ≤ w'.heap.size
 block : ∀ k, k < w.heap.size → ¬ F k → w'.heap[k]? = w.heap[k]?

set_option maxRecDepth 100000 in
theorem Fr.refl (F : Nat → Prop) (w : World) : Fr F w w := ⟨rfl, rfl, rfl, Nat.le_refl _, fun _ _ _ => rfl⟩
set_option maxRecDepth 100000 in
theorem Fr.trans {F G : Nat → Prop} {a b c : World} (h : Fr F a b) (k : Fr G b c) (hs : ∀ i, i < a.heap.size → G i → F i) : Fr F a c :=
 ⟨k.os.trans h.os, k.tape.trans h.tape, k.output.trans h.output, Nat.le_trans h.size k.size,
  fun i hi hn => (k.block i (Nat.lt_of_lt_of_le hi h.size) (fun hg => hn (hs i hi hg))).trans (h.block i hi hn)⟩
set_option maxRecDepth 100000 in
theorem Fr.mono {F G : Nat → Prop} {a b : World} (h : Fr F a b) (hs : ∀ i, i < a.heap.size → F i → G i) : Fr G a b :=
 ⟨h.os, h.tape, h.output, h.size, fun i hi hn => h.block i hi (fun hf => hn (hs i hi hf))⟩
set_option maxRecDepth 100000 in
theorem Fr.drewN {F : Nat → Prop} {a b : World} (h : Fr F a b) (n : Nat) : Fr F a (b.drewN n) := ⟨h.os, h.tape, h.output, h.size, h.block⟩
set_option maxRecDepth 100000 in
theorem Fr.drew {F : Nat → Prop} {a b : World} (h : Fr F a b) : Fr F a b.drew := ⟨h.os, h.tape, h.output, h.size, h.block⟩
set_option maxRecDepth 100000 in
theorem Fr.alloc {F : Nat → Prop} {a b : World} (h : Fr F a b) (o : Obj) : Fr F a (b.alloc o) :=
 ⟨h.os, h.tape, h.output, Nat.le_trans h.size (by simp), fun i hi hn => (Below.heap_alloc b o i (Nat.lt_of_lt_of_le hi h.size)).trans (h.block i hi hn)⟩
set_option maxRecDepth 100000 in
theorem Fr.setCell {F : Nat → Prop} {a b : World} (h : Fr F a b) {p : Addr} (hp : F p.block ∨ a.heap.size ≤ p.block) (u : Value) : Fr F a (b.setCell p u) :=
 ⟨h.os, h.tape, h.output, by simpa [World.setCell] using h.size, fun i hi hn => (Below.heap_setCell b p u i (by
  rintro rfl
  rcases hp with hp | hp
  · exact hn hp
  · omega)).trans (h.block i hi hn)⟩
set_option maxRecDepth 100000 in
theorem Fr.grown {F : Nat → Prop} {a b c : World} {row : Option Nat} (h : Fr F a b) (hg : b.grownBy c row) (hr : ∀ k, row = some k → F k ∨ a.heap.size ≤ k) : Fr F a c :=
 ⟨hg.os.trans h.os, hg.tape.trans h.tape, hg.output.trans h.output, Nat.le_trans h.size hg.size,
  fun i hi hn => (hg.block i (Nat.lt_of_lt_of_le hi h.size) (fun e => by
   rcases hr i e.symm with hf | hf
   · exact hn hf
   · omega)).trans (h.block i hi hn)⟩
set_option maxRecDepth 100000 in
theorem Fr.below {F : Nat → Prop} {a b : World} (h : Fr F a b) {B : Nat} (hB : B ≤ a.heap.size) (hF : ∀ i, i < B → ¬ F i) : Below B a b :=
 ⟨h.os, h.tape, h.output, h.size, fun i hi => h.block i (by omega) (hF i hi)⟩
set_option maxRecDepth 100000 in
theorem Fr.of_below {F : Nat → Prop} {a b : World} (h : Below a.heap.size a b) : Fr F a b := ⟨h.os, h.tape, h.output, h.size, fun i hi _ => h.block i hi⟩
set_option maxRecDepth 100000 in
theorem Fr.cell {F : Nat → Prop} {a b : World} (h : Fr F a b) {p : Addr} (hp : p.block < a.heap.size) (hn : ¬ F p.block) : b.cell? p = a.cell? p :=
 World.cell?_of_block (h.block p.block hp hn)
set_option maxRecDepth 100000 in
theorem add_block (a : Addr) (n : Nat) : (a.add n).block = a.block := by unfold Addr.add; split <;> rfl
set_option maxRecDepth 100000 in
theorem add_add (a : Addr) (i j : Nat) : (a.add i).add j = a.add (i + j) := by
 unfold Addr.add
 by_cases hi : i = 0 <;> by_cases hj : j = 0 <;> simp [hi, hj, Nat.add_assoc]

def cellsB (l : List UInt8) : List Value := l.map fun c => Value.int .u8 (c.toNat : Int)
set_option maxRecDepth 100000 in
theorem cellsB_len (l : List UInt8) : (cellsB l).length = l.length := by simp [cellsB]
set_option maxRecDepth 100000 in
theorem cellsB_app (l m : List UInt8) : cellsB (l ++ m) = cellsB l ++ cellsB m := by simp [cellsB]
set_option maxRecDepth 100000 in
theorem cellsB_one (l : List UInt8) : ∀ u ∈ cellsB l, u.oneCell' = true := by
 intro u hu
 simp only [cellsB, List.mem_map] at hu
 obtain ⟨c, _, rfl⟩ := hu
 rfl
set_option maxRecDepth 100000 in
theorem cellsB_get (l : List UInt8) (j : Nat) (u : Value) (h : (cellsB l)[j]? = some u) : ∃ c, l[j]? = some c ∧ u = .int .u8 (c.toNat : Int) := by
 simp only [cellsB, List.getElem?_map, Option.map_eq_some_iff] at h
 obtain ⟨c, hc, rfl⟩ := h
 exact ⟨c, hc, rfl⟩

def Rd (w : World) (A : Option Addr) (n : Nat) (l : List UInt8) : Prop :=
 l.length = n ∧ (0 < n → ∃ ad, A = some ad ∧ ∀ j c, l[j]? = some c → w.cell? (ad.add j) = some (.int .u8 (c.toNat : Int)))

set_option maxRecDepth 100000 in
theorem Rd.nil (w : World) (A : Option Addr) : Rd w A 0 [] := ⟨rfl, fun h => absurd h (by omega)⟩
set_option maxRecDepth 100000 in
theorem Rd.len {w : World} {A : Option Addr} {n : Nat} {l : List UInt8} (h : Rd w A n l) : l.length = n := h.1
set_option maxRecDepth 100000 in
theorem Rd.at_ {w : World} {A : Option Addr} {n : Nat} {l : List UInt8} (h : Rd w A n l) {k : Nat} (hk : k < n) :
 ∃ ad c, A = some ad ∧ l[k]? = some c ∧ w.cell? (ad.add k) = some (.int .u8 (c.toNat : Int)) := by
 obtain ⟨ad, e, hc⟩ := h.2 (by omega)
 have hl : k < l.length := by have := h.1; omega
 exact ⟨ad, l[k], e, List.getElem?_eq_getElem hl, hc k _ (List.getElem?_eq_getElem hl)⟩
set_option maxRecDepth 100000 in
theorem Rd.lt {w : World} {A : Option Addr} {n : Nat} {l : List UInt8} (h : Rd w A n l) (hn : 0 < n) : ∃ ad, A = some ad ∧ ad.block < w.heap.size := by
 obtain ⟨ad, c, e, _, hc⟩ := h.at_ hn
 refine ⟨ad, e, ?_⟩
 have := World.block_lt_of_cell? w _ hc
 rwa [add_block] at this
set_option maxRecDepth 100000 in
theorem Rd.keep {F : Nat → Prop} {w w' : World} {A : Option Addr} {n : Nat} {l : List UInt8} (h : Rd w A n l) (f : Fr F w w') (hF : ∀ ad, A = some ad → ¬ F ad.block) : Rd w' A n l :=
 ⟨h.1, fun hn => by
  obtain ⟨ad, e, hc⟩ := h.2 hn
  obtain ⟨ad', e', hlt⟩ := h.lt hn
  rw [e] at e'
  injection e' with e'
  subst e'
  refine ⟨ad, e, fun j c hj => ?_⟩
  rw [f.cell (by rw [add_block]; exact hlt) (by rw [add_block]; exact hF ad e)]
  exact hc j c hj⟩
set_option maxRecDepth 100000 in
theorem Rd.drop {w : World} {A : Option Addr} {n : Nat} {l : List UInt8} (h : Rd w A n l) {k cap : Nat} (hk : k ≤ n) (hc : n ≤ cap) :
 Rd w (if cap = k then A else A.map (·.add k)) (n - k) (l.drop k) := by
 refine ⟨by rw [List.length_drop, h.1], fun hn => ?_⟩
 obtain ⟨ad, rfl, hcell⟩ := h.2 (by omega)
 rw [if_neg (by omega)]
 refine ⟨ad.add k, rfl, fun j c hj => ?_⟩
 rw [add_add]
 exact hcell _ c (by rw [← hj, List.getElem?_drop])
set_option maxRecDepth 100000 in
theorem Rd.take {w : World} {A : Option Addr} {n : Nat} {l : List UInt8} (h : Rd w A n l) {k : Nat} (hk : k ≤ n) : Rd w A k (l.take k) := by
 refine ⟨by rw [List.length_take, h.1]; omega, fun hn => ?_⟩
 obtain ⟨ad, rfl, hcell⟩ := h.2 (by omega)
 refine ⟨ad, rfl, fun j c hj => hcell j c ?_⟩
 rw [List.getElem?_take] at hj
 split at hj
 · exact hj
 · cases hj
set_option maxRecDepth 100000 in
theorem Rd.of_own {w : World} {base e : Nat} {A : Option Addr} {n c : Nat} {l : List UInt8} (h : w.ownsRow base e 1 (.slice A n c) n (cellsB l)) : Rd w A n l := by
 have hl : l.length = n := by have := h.1; rw [cellsB_len] at this; omega
 refine ⟨hl, fun hn => ?_⟩
 rcases h.2 with ⟨_, h0⟩ | ⟨g, cap, cur, hv, _⟩
 · omega
 have hA : A = some ⟨g, 0, none⟩ := by injection hv
 subst hA
 refine ⟨_, rfl, fun j c hj => h.cells (g := g) rfl j _ ?_⟩
 simp [cellsB, hj]
set_option maxRecDepth 100000 in
theorem own_slice {w : World} {base e size n : Nat} {v : Value} {xs : List Value} (h : w.ownsRow base e size v n xs) : ∃ A c, v = .slice A n c ∧ n ≤ c ∧ c ≤ maxLen := by
 rcases h.2 with ⟨rfl, rfl⟩ | ⟨g, cap, cur, rfl, _, _, hn, hc, _⟩
 · exact ⟨none, 0, rfl, Nat.le_refl _, Nat.zero_le _⟩
 · exact ⟨_, cap, rfl, hn, hc⟩
set_option maxRecDepth 100000 in
theorem own_form {w : World} {base e size n : Nat} {v : Value} {xs : List Value} (h : w.ownsRow base e size v n xs) : ∃ A m c, v = .slice A m c := by
 obtain ⟨A, c, e, _⟩ := own_slice h
 exact ⟨A, n, c, e⟩
set_option maxRecDepth 100000 in
theorem Rd.cellsB {w : World} {A : Option Addr} {n : Nat} {l : List UInt8} (h : Rd w A n l) (hn : 0 < n) :
 ∃ ad, A = some ad ∧ ∀ j u, (cellsB l)[j]? = some u → w.cell? (ad.add j) = some u := by
 obtain ⟨ad, e, hc⟩ := h.2 hn
 refine ⟨ad, e, fun j u hu => ?_⟩
 obtain ⟨c, hc', rfl⟩ := cellsB_get l j u hu
 exact hc j c hc'

section
variable {P : Program} (w : World)

set_option maxRecDepth 100000 in
theorem run_append_bytes (base : Nat) (t ty e : TypeId) (i : TypeInfo) (z : Value) (ht : P.underlying t = some (.slice e)) (hi : P.info? e = some i) (hz : i.zero = some z)
 (hsize : i.size = 1) (hby : i.bytes = 1) (hzs : z.cells.size = 1)
 (v : Value) (xs l : List UInt8) (hown : w.ownsRow base e 1 v xs.length (cellsB xs)) (A : Option Addr) (m c : Nat) (hr : Rd w A m l)
 (hb : xs.length + m ≤ 140737488355328) (hbase : base ≤ w.heap.size) :
 ∃ v' w', (Builtin.append_ #[t, t] ty #[v, .slice A m c]).run P w = .ok v' w' ∧ w'.ownsRow base e 1 v' (xs ++ l).length (cellsB (xs ++ l)) ∧ w.grownBy w' v.ownBlock ∧
  (v'.ownBlock = v.ownBlock ∨ v'.ownBlock = some w.heap.size) := by
 have hlen : (xs ++ l).length = xs.length + m := by rw [List.length_append, hr.1]
 rw [hlen, cellsB_app]
 by_cases hm : m = 0
 · subst hm
   have hl : l = [] := List.eq_nil_of_length_eq_zero hr.1
   subst hl
   refine ⟨v, w, ?_, by simpa [cellsB] using hown, World.grownBy.refl w _, .inl rfl⟩
   rcases hown.2 with ⟨rfl, h0⟩ | ⟨g, cap, cur, rfl, _, _, hnc, _⟩
   · cases A <;> simp [Builtin.append_, run_underlying ht, sizeOf, typeInfo, hi, Builtin.lenOf, Builtin.firstCells, loadCells, loadCellsFrom]
   · cases A <;> simp [Builtin.append_, run_underlying ht, sizeOf, typeInfo, hi, Builtin.lenOf, Builtin.firstCells, hnc, storeCells, loadCells, loadCellsFrom]
 · obtain ⟨ad, rfl, hc⟩ := hr.cellsB (by omega)
   obtain ⟨v', w', hrun, h2, h3, _, h5⟩ := run_append_own_at (P := P) w base t ty e i z 1 1 ht hi hz hsize hby hzs (by omega) v xs.length (cellsB xs) hown ad m c (cellsB l)
    (by rw [cellsB_len, hr.1]; omega) hc (cellsB_one l) (by simp only [maxLen]; omega) (by omega) hbase
   exact ⟨v', w', hrun, h2, h3, h5⟩

set_option maxRecDepth 100000 in
theorem wp_append_bytes {o : Oper} {a : Act} {K : Act → World → Prop} {Q : Exit → Act → World → Prop} (s x : Operand) (t : TypeId)
 (ho : o.op = .call { callee := .builtin .append, args := #[s, x], argTypes := #[t, t] })
 (base : Nat) (e : TypeId) (i : TypeInfo) (z : Value) (ht : P.underlying t = some (.slice e)) (hi : P.info? e = some i) (hz : i.zero = some z)
 (hsize : i.size = 1) (hby : i.bytes = 1) (hzs : z.cells.size = 1)
 (v : Value) (xs l : List UInt8) (hs : a.eval s = v) (hown : w.ownsRow base e 1 v xs.length (cellsB xs)) (A : Option Addr) (m c : Nat) (hx : a.eval x = .slice A m c) (hr : Rd w A m l)
 (hb : xs.length + m ≤ 140737488355328) (hbase : base ≤ w.heap.size)
 (h : ∀ v' w', w'.ownsRow base e 1 v' (xs ++ l).length (cellsB (xs ++ l)) → w.grownBy w' v.ownBlock → (v'.ownBlock = v.ownBlock ∨ v'.ownBlock = some w.heap.size) → K (a.put o.dst v') w') : o.wp P a w K Q := by
 obtain ⟨v', w', hrun, h2, h3, h4⟩ := run_append_bytes (P := P) w base t o.type e i z ht hi hz hsize hby hzs v xs l hown A m c hr hb hbase
 unfold Oper.wp execOp
 simp only [ho, resolve, invoke, builtin, Sem.run_bind, Sem.run_pure, Result.andThen_ok, List.map_toArray, List.map_cons, List.map_nil, hs, hx, hrun]
 exact h v' w' h2 h3 h4

set_option maxRecDepth 100000 in
theorem wpList_append_bytes {ops : Array Oper} {rest : List Oper} {o : Oper} {a : Act} {Q : Exit → Act → World → Prop} (hgd : o.guard = none) (s x : Operand) (t : TypeId)
 (ho : o.op = .call { callee := .builtin .append, args := #[s, x], argTypes := #[t, t] })
 (base : Nat) (e : TypeId) (i : TypeInfo) (z : Value) (ht : P.underlying t = some (.slice e)) (hi : P.info? e = some i) (hz : i.zero = some z)
 (hsize : i.size = 1) (hby : i.bytes = 1) (hzs : z.cells.size = 1)
 (v : Value) (xs l : List UInt8) (hs : a.eval s = v) (hown : w.ownsRow base e 1 v xs.length (cellsB xs)) (A : Option Addr) (m c : Nat) (hx : a.eval x = .slice A m c) (hr : Rd w A m l)
 (hb : xs.length + m ≤ 140737488355328) (hbase : base ≤ w.heap.size)
 (h : ∀ v' w', w'.ownsRow base e 1 v' (xs ++ l).length (cellsB (xs ++ l)) → w.grownBy w' v.ownBlock → (v'.ownBlock = v.ownBlock ∨ v'.ownBlock = some w.heap.size) → wpList P ops Q rest (a.put o.dst v') w') : wpList P ops Q (o :: rest) a w :=
 wpList_plain hgd fun _ hK => wp_append_bytes w s x t ho base e i z ht hi hz hsize hby hzs v xs l hs hown A m c hx hr hb hbase fun v' w' h2 h3 h4 => hK _ _ (h v' w' h2 h3 h4)
end

def Blk (w : World) (g : Nat) (t : TypeId) (cs : Array Value) : Prop := w.heap[g]? = some (.cells cs t (0, 0))
set_option maxRecDepth 100000 in
theorem Blk.lt {w : World} {g : Nat} {t : TypeId} {cs : Array Value} (h : Blk w g t cs) : g < w.heap.size := by
 rcases Nat.lt_or_ge g w.heap.size with hlt | hge
 · exact hlt
 · unfold Blk at h; rw [Array.getElem?_eq_none hge] at h; cases h
set_option maxRecDepth 100000 in
theorem Blk.cell {w : World} {g : Nat} {t : TypeId} {cs : Array Value} (h : Blk w g t cs) (i : Nat) : w.cell? ⟨g, i, none⟩ = cs[i]? := cell_of_row w g i cs t (0, 0) h
set_option maxRecDepth 100000 in
theorem Blk.frozen {w : World} {g : Nat} {t : TypeId} {cs : Array Value} (h : Blk w g t cs) (i : Nat) : w.frozen? ⟨g, i, none⟩ = false := by
 unfold Blk at h
 simp [World.frozen?, h]
set_option maxRecDepth 100000 in
theorem Blk.new (w : World) (t : TypeId) (cs : Array Value) : Blk (w.alloc (.cells cs t)) w.heap.size t cs := heap_alloc_new w _
set_option maxRecDepth 100000 in
theorem Blk.keep {F : Nat → Prop} {w w' : World} {g : Nat} {t : TypeId} {cs : Array Value} (h : Blk w g t cs) (f : Fr F w w') (hF : ¬ F g) : Blk w' g t cs := (f.block g h.lt hF).trans h
set_option maxRecDepth 100000 in
theorem Blk.set_ {w : World} {g : Nat} {t : TypeId} {cs : Array Value} (h : Blk w g t cs) (i : Nat) (u : Value) : Blk (w.setCell ⟨g, i, none⟩ u) g t (cs.setIfInBounds i u) := by
 unfold Blk at h ⊢
 simp [World.setCell, Array.getElem?_modify, h]
set_option maxRecDepth 100000 in
theorem Blk.ne_ {w : World} {g g' : Nat} {t t' : TypeId} {cs cs' : Array Value} (h : Blk w g t cs) (h' : Blk w g' t' cs') (hne : t ≠ t') : g ≠ g' := by
 rintro rfl
 unfold Blk at h h'
 rw [h] at h'
 injection h' with h'
 injection h' with _ ht
 exact hne ht
set_option maxRecDepth 100000 in
theorem own_ne {w : World} {base e size n : Nat} {v : Value} {xs : List Value} {g : Nat} {t : TypeId} {cs : Array Value} (h : w.ownsRow base e size v n xs) (hg : Blk w g t cs) (hne : e ≠ t) : v.ownBlock ≠ some g := by
 rcases h.2 with ⟨rfl, _⟩ | ⟨g', cap, cur, rfl, _, hh, _⟩
 · simp [Value.ownBlock]
 · intro he
   have : g' = g := by simpa [Value.ownBlock] using he
   subst this
   exact Blk.ne_ (t := e) hh hg hne rfl
set_option maxRecDepth 100000 in
theorem own_keep {F : Nat → Prop} {w w' : World} {base e size n : Nat} {v : Value} {xs : List Value} (h : w.ownsRow base e size v n xs) (f : Fr F w w') (hF : ∀ k, v.ownBlock = some k → ¬ F k) : w'.ownsRow base e size v n xs := by
 refine ⟨h.1, ?_⟩
 rcases h.2 with hn | ⟨g, cap, cur, rfl, hb, hgg, rest⟩
 · exact .inl hn
 · exact .inr ⟨g, cap, cur, rfl, hb, (f.block g (Array.getElem?_eq_some_iff.1 hgg).1 (hF g rfl)).trans hgg, rest⟩

end Go.Proofs.YtcnlgbjkjlbmbaaGreat

namespace Go.Proofs.YtcnlgbjkjlbmbaaGreat
open Go.RowKit

set_option maxRecDepth 100000 in
theorem slice_from {P : Program} {t : TypeId} (ht : P.underlying t = some (.slice (P.elem t))) (hz : ∀ w, (sizeOf (P.elem t)).run P w = .ok 1 w)
 {w : World} {A : Option Addr} {n c : Nat} {l : List UInt8} (hr : Rd w A n l) (hnc : n ≤ c) (hA : A = none → c = 0) (k : Nat) (hk : k ≤ n) :
 ∃ A', (∀ W, (Instr.slice t (.slice A n c) (some (.int .i64 (k : Int))) none none).run P W = .ok (.slice A' (n - k) (c - k)) W) ∧ Rd w A' (n - k) (l.drop k) ∧ (A' = none → c - k = 0) ∧
  (∀ ad', A' = some ad' → ∃ ad, A = some ad ∧ ad'.block = ad.block) := by
 refine ⟨_, fun W => ?_, hr.drop hk hnc, ?_, ?_⟩
 · rw [run_slice_l W t A n c ht .i64 k (by omega) (by omega), hz]
   simp [Result.andThen, sliced]
 · split
   · intro _; omega
   · intro h
     have := hA (by cases A <;> simp_all)
     omega
 · intro ad' h
   split at h
   · exact ⟨ad', h, rfl⟩
   · cases A with
     | none => cases h
     | some ad => exact ⟨ad, rfl, by simp at h; rw [← h, add_block]⟩

set_option maxRecDepth 100000 in
theorem slice_to {P : Program} {t : TypeId} (ht : P.underlying t = some (.slice (P.elem t))) (hz : ∀ w, (sizeOf (P.elem t)).run P w = .ok 1 w)
 {w : World} {A : Option Addr} {n c : Nat} {l : List UInt8} (hr : Rd w A n l) (hnc : n ≤ c) (k : Nat) (hk : k ≤ n) :
 (∀ W, (Instr.slice t (.slice A n c) none (some (.int .i64 (k : Int))) none).run P W = .ok (.slice A k c) W) ∧ Rd w A k (l.take k) := by
 refine ⟨fun W => ?_, hr.take hk⟩
 rw [run_slice_h W t A n c ht .i64 k (by omega) (by omega), hz]
 have h0 : A.map (fun x => x.add 0) = A := by cases A <;> simp [Addr.add]
 simp [Result.andThen, sliced, h0]
end Go.Proofs.YtcnlgbjkjlbmbaaGreat

namespace Go.Proofs.YtcnlgbjkjlbmbaaGreat
open Go.RowKit

abbrev av (l : List UInt8) : Value := .agg (cellsB l).toArray
def nought (n : Nat) : List UInt8 := List.replicate n 0
set_option maxRecDepth 100000 in
theorem nought_len (n : Nat) : (nought n).length = n := by simp [nought]

set_option maxRecDepth 100000 in
theorem zeroHalf (w : World) : (zeroValue 177).run Tryz.prog w = .ok (av (nought 64)) w := by
 rw [Tryz.zeroValue177]; rfl
set_option maxRecDepth 100000 in
theorem zeroPiece (w : World) : (zeroValue 175).run Tryz.prog w = .ok (av (nought 48)) w := by
 rw [Tryz.zeroValue175]; rfl
set_option maxRecDepth 100000 in
theorem zeroSector (w : World) : (zeroValue 83).run Tryz.prog w = .ok (av (nought 128)) w := by
 have h : (Tryz.prog.info? 83).map (·.zero) = some (some (av (nought 128))) := by kernel_rfl
 cases hi : Tryz.prog.info? 83 with
 | none => simp [hi] at h
 | some i =>
   have hz : i.zero = some (av (nought 128)) := by simpa [hi] using h
   simp [zeroValue, typeInfo, hi, hz, Sem.run_bind]

set_option maxRecDepth 100000 in
theorem alloc_of_zero {t : TypeId} {l : List UInt8} (h : ∀ w, (zeroValue t).run Tryz.prog w = .ok (av l) w) (w : World) :
 (Instr.alloc t true (.tuple #[])).run Tryz.prog w = .ok (.pointer (some ⟨w.heap.size, 0, none⟩)) (w.alloc (.cells (cellsB l).toArray t)) := by
 unfold Instr.alloc
 rw [Sem.run_bind, h]
 simp only [Result.andThen_ok]
 go_simp

set_option maxRecDepth 100000 in
theorem infoHalf : (Tryz.prog.info? 177).map (·.size) = some 64 := by kernel_rfl
set_option maxRecDepth 100000 in
theorem infoPiece : (Tryz.prog.info? 175).map (·.size) = some 48 := by kernel_rfl
set_option maxRecDepth 100000 in
theorem infoSector : (Tryz.prog.info? 83).map (·.size) = some 128 := by kernel_rfl


/-! Walking over whole arrays. -/
section
variable {ops : Array Oper} {rest : List Oper} {o : Oper} {a : Act} {w : World} {Q : Exit → Act → World → Prop}
set_option maxRecDepth 100000 in
theorem wpList_zero (hg : o.guard = none) (t : TypeId) (ho : o.op = .alloc t) {l : List UInt8} (h : ∀ w, (zeroValue t).run Tryz.prog w = .ok (av l) w)
 (hK : wpList Tryz.prog ops Q rest (a.put o.dst (.pointer (some ⟨w.heap.size, 0, none⟩))) (w.alloc (.cells (cellsB l).toArray t))) : wpList Tryz.prog ops Q (o :: rest) a w := by
 refine wpList_plain hg fun K hK' => ?_
 have hr := alloc_of_zero h w
 unfold Oper.wp execOp
 simp only [ho, Sem.run_bind, hr, Result.andThen_ok, Sem.run_pure, Oper.upon]
 exact hK' _ _ hK
set_option maxRecDepth 100000 in
theorem wpList_put (hg : o.guard = none) (t : TypeId) (x : Operand) (ho : o.op = .box t x) (cs : Array Value) (hx : a.eval x = .agg cs)
 (hK : wpList Tryz.prog ops Q rest (a.put o.dst (.pointer (some ⟨w.heap.size, 0, none⟩))) (w.alloc (.cells cs t))) : wpList Tryz.prog ops Q (o :: rest) a w := by
 refine wpList_plain hg fun K hK' => ?_
 have hr : (Instr.box t (.agg cs)).run Tryz.prog w = .ok (.pointer (some ⟨w.heap.size, 0, none⟩)) (w.alloc (.cells cs t)) := by go_simp
 unfold Oper.wp execOp
 simp only [ho, hx, Sem.run_bind, hr, Result.andThen_ok, Sem.run_pure, Oper.upon]
 exact hK' _ _ hK
end

set_option maxRecDepth 100000 in
theorem Blk.range {w : World} {b : Nat} {t : TypeId} {l : List UInt8} (h : Blk w b t (cellsB l).toArray) (o n : Nat) : w.rangeAt b o (cellsB ((l.drop o).take n)) := fun j v hv => by
 rw [cellsB, List.getElem?_map] at hv
 obtain ⟨c, hc, rfl⟩ := Option.map_eq_some_iff.1 hv
 rw [List.getElem?_take] at hc
 split at hc
 · rw [List.getElem?_drop] at hc
   rw [h.cell]
   simp [cellsB, hc]
 · cases hc
set_option maxRecDepth 100000 in
theorem Blk.there {w : World} {b : Nat} {t : TypeId} {cs : Array Value} (h : Blk w b t cs) {o n : Nat} (hn : o + n ≤ cs.size) : w.there b o n := fun j hj => by
 refine ⟨?_, h.frozen _⟩
 rw [h.cell, Array.getElem?_eq_getElem (by omega)]
 rfl
def patch (l : List UInt8) (o : Nat) (m : List UInt8) : List UInt8 := l.take o ++ (m ++ l.drop (o + m.length))
set_option maxRecDepth 100000 in
theorem patch_len {l m : List UInt8} {o : Nat} (h : o + m.length ≤ l.length) : (patch l o m).length = l.length := by
 simp [patch]; omega
set_option maxRecDepth 100000 in
theorem patch_all {l m : List UInt8} (h : l.length = m.length) : patch l 0 m = m := by
 simp [patch, ← h]
set_option maxRecDepth 100000 in
theorem Blk.over {b : Nat} {t : TypeId} : ∀ {m l : List UInt8} {o : Nat} {w : World} (h : Blk w b t (cellsB l).toArray) (hn : o + m.length ≤ l.length), Blk (w.setCells b o (cellsB m)) b t (cellsB (patch l o m)).toArray
 | [], l, o, w, h, hn => by
   have e : patch l o [] = l := by simp [patch]
   rw [e]; exact h
 | c :: m, l, o, w, h, hn => by
   simp only [List.length_cons] at hn
   have h1 : Blk (w.setCell ⟨b, o, none⟩ (.int .u8 (c.toNat : Int))) b t (cellsB (l.set o c)).toArray := by
    have := h.set_ o (.int .u8 (c.toNat : Int))
    simpa [cellsB, List.map_set] using this
   have h2 := Blk.over (m := m) (l := l.set o c) (o := o + 1) h1 (by simp; omega)
   have e : patch (l.set o c) (o + 1) m = patch l o (c :: m) := by
    unfold patch
    have h3 : (l.set o c).take (o + 1) = l.take o ++ [c] := by
     rw [List.take_set, List.take_succ_eq_append_getElem (by omega)]
     have h4 : (l.take o).length = o := by rw [List.length_take]; omega
     rw [List.set_append_right _ _ (by omega), h4, Nat.sub_self]
     rfl
    rw [h3, List.drop_set_of_lt (by omega)]
    simp [Nat.add_assoc, Nat.add_comm 1]
   rw [← e]
   exact h2
set_option maxRecDepth 100000 in
theorem Fr.setCells {F : Nat → Prop} {a : World} {b : Nat} (hb : F b ∨ a.heap.size ≤ b) : ∀ {vs : List Value} {o : Nat} {w : World}, Fr F a w → Fr F a (w.setCells b o vs)
 | [], _, _, h => h
 | u :: vs, o, _, h => Fr.setCells (vs := vs) hb (h.setCell (p := ⟨b, o, none⟩) hb u)

set_option maxRecDepth 100000 in
theorem at_half (A : Option Addr) (w : World) : (Instr.arrayAt 177 (.slice A 64 64)).run Tryz.prog w = .ok (.pointer A) w := by
 simp [Instr.arrayAt, run_underlying Tryz.underlying177]
set_option maxRecDepth 100000 in
theorem at_piece (A : Option Addr) (w : World) : (Instr.arrayAt 175 (.slice A 48 48)).run Tryz.prog w = .ok (.pointer A) w := by
 simp [Instr.arrayAt, run_underlying Tryz.underlying175]

set_option maxRecDepth 100000 in
theorem cut_any (w : World) (s : List UInt8) (hs : s.length = 128) (k : Nat) (hk : k < 2) :
 Calls Tryz.prog 140 #[av s, .int .i64 k] w fun e w' => e = .returned (av ((s.drop (64 * k)).take 64)) ∧ Fr (fun _ => False) w w' := by
 have hk2 : k = 0 ∨ k = 1 := by omega
 have hB : ∀ X, Blk ((w.alloc (.cells (cellsB s).toArray 83)).alloc X) w.heap.size 83 (cellsB s).toArray := fun X =>
  (Blk.new w _ _).keep (F := fun _ => False) ((Fr.refl _ _).alloc X) (fun h => h)
 have HR := Lib.hid fun X => (hB X).range 0 64
 have HR2 := Lib.hid fun X => (hB X).range 64 64
 have hat := at_half
 have hN : Blk ((w.alloc (.cells (cellsB s).toArray 83)).alloc (.cells (cellsB (nought 64)).toArray 177)) (w.heap.size + 1) 177 (cellsB (nought 64)).toArray := by
  have := Blk.new (w.alloc (.cells (cellsB s).toArray 83)) 177 (cellsB (nought 64)).toArray
  simpa using this
 have HN := Lib.hid hN
 have hF : Fr (fun _ => False) w ((w.alloc (.cells (cellsB s).toArray 83)).alloc (.cells (cellsB (nought 64)).toArray 177)) := ((Fr.refl _ w).alloc _).alloc _
 have HF := Lib.hid hF
 clear hB hN hF
 rcases hk2 with rfl | rfl
 · have hl : ((s.drop 0).take 64).length = 64 := by simp [hs]
   obtain ⟨m, hm⟩ : ∃ m, m = (s.drop 0).take 64 := ⟨_, rfl⟩
   simp only [Nat.mul_zero]
   rw [← hm] at HR hl ⊢
   have HM := Lib.hid (And.intro hm hl)
   clear hm hl
   go_enter Tryz.func140, Tryz.ntmps140
   go_wp2_with (first
    | (refine wpList_zero rfl 177 rfl zeroHalf ?_)
    | (refine wpList_put rfl 83 _ rfl _ rfl ?_)
    | (refine wpList_load_mid rfl 177 _ rfl w.heap.size 0 rfl (cellsB m) _ (HR.out _) Tryz.underlying177 rfl (by rw [infoHalf, cellsB_len, HM.out.2]) ?_)
    | (refine wpList_store_mid rfl 177 _ _ rfl (w.heap.size + 1) 0 (cellsB m).toArray rfl rfl (HN.out.there (by simp [cellsB_len, nought_len, HM.out.2])) (by rw [infoHalf]; simp [cellsB_len, HM.out.2]) (all_oneCell_toArray (cellsB_one _)) ?_))
   refine bodyPost_ret (results_cell_row rfl _ _ (w.heap.size + 1) 177 (cellsB m).toArray (0, 0) _ rfl ?_ Tryz.underlying177 rfl (by rw [infoHalf]; simp [cellsB_len, HM.out.2])) rfl ?_
   · have := HN.out.over (o := 0) (m := m) (by rw [nought_len, HM.out.2]; omega)
     rw [patch_all (by rw [nought_len, HM.out.2])] at this
     exact this
   · exact ⟨rfl, Fr.setCells (.inr (by omega)) HF.out⟩
 · have hl : ((s.drop 64).take 64).length = 64 := by simp [hs]
   obtain ⟨m, hm⟩ : ∃ m, m = (s.drop 64).take 64 := ⟨_, rfl⟩
   simp only [Nat.mul_one]
   rw [← hm] at HR2 hl ⊢
   have HM := Lib.hid (And.intro hm hl)
   clear hm hl
   go_enter Tryz.func140, Tryz.ntmps140
   go_wp2_with (first
    | (refine wpList_zero rfl 177 rfl zeroHalf ?_)
    | (refine wpList_put rfl 83 _ rfl _ rfl ?_)
    | (refine wpList_load_mid rfl 177 _ rfl w.heap.size 64 rfl (cellsB m) _ (HR2.out _) Tryz.underlying177 rfl (by rw [infoHalf, cellsB_len, HM.out.2]) ?_)
    | (refine wpList_store_mid rfl 177 _ _ rfl (w.heap.size + 1) 0 (cellsB m).toArray rfl rfl (HN.out.there (by simp [cellsB_len, nought_len, HM.out.2])) (by rw [infoHalf]; simp [cellsB_len, HM.out.2]) (all_oneCell_toArray (cellsB_one _)) ?_))
   refine bodyPost_ret (results_cell_row rfl _ _ (w.heap.size + 1) 177 (cellsB m).toArray (0, 0) _ rfl ?_ Tryz.underlying177 rfl (by rw [infoHalf]; simp [cellsB_len, HM.out.2])) rfl ?_
   · have := HN.out.over (o := 0) (m := m) (by rw [nought_len, HM.out.2]; omega)
     rw [patch_all (by rw [nought_len, HM.out.2])] at this
     exact this
   · exact ⟨rfl, Fr.setCells (.inr (by omega)) HF.out⟩
end Go.Proofs.YtcnlgbjkjlbmbaaGreat

namespace Go.Proofs.YtcnlgbjkjlbmbaaGreat
open Go.RowKit

def be (n size : Nat) : List UInt8 := (List.range size).map fun i => UInt8.ofNat (n / 256 ^ (size - 1 - i) % 256)
set_option maxRecDepth 100000 in
theorem be_len (n size : Nat) : (be n size).length = size := by simp [be]

set_option maxRecDepth 100000 in
theorem putter_any (w : World) (A : Option Addr) (n c : Nat) :
 Calls Tryz.prog 143 #[.slice A n c] w fun e w' => e = .returned (.func (.func 153) #[] #[.pointer (some ⟨w.heap.size, 0, none⟩)]) ∧ w' = w.alloc (.cells #[.slice A n c] 46) := by
 go_enter Tryz.func143, Tryz.ntmps143
 go_wp2_with fail
 go_ret
 exact ⟨rfl, rfl⟩
set_option maxRecDepth 100000 in
theorem taker_any (w : World) (A : Option Addr) (n c : Nat) :
 Calls Tryz.prog 142 #[.slice A n c] w fun e w' => e = .returned (.func (.func 152) #[] #[.pointer (some ⟨w.heap.size, 0, none⟩)]) ∧ w' = w.alloc (.cells #[.slice A n c] 46) := by
 go_enter Tryz.func142, Tryz.ntmps142
 go_wp2_with fail
 go_ret
 exact ⟨rfl, rfl⟩

set_option maxRecDepth 100000 in
theorem patch_snoc {l m : List UInt8} {o : Nat} {c : UInt8} (h : o + m.length < l.length) : (patch l o m).set (o + m.length) c = patch l o (m ++ [c]) := by
 unfold patch
 have h1 : (l.take o).length = o := by rw [List.length_take]; omega
 rw [List.set_append_right _ _ (by omega), h1, List.set_append_right _ _ (by omega)]
 rw [List.drop_eq_getElem_cons h]
 simp [Nat.add_assoc, Nat.add_sub_cancel_left]

def BoxB (w : World) (g B : Nat) (t : TypeId) (o n c : Nat) (l : List UInt8) : Prop :=
 Blk w g 46 #[.slice (some ⟨B, o, none⟩) n c] ∧ Blk w B t (cellsB l).toArray ∧ g ≠ B ∧ o + n ≤ l.length ∧ n ≤ c

set_option maxRecDepth 100000 in
theorem pow8 (j : Nat) : (2 : Int) ^ (8 * j) = ((256 ^ j : Nat) : Int) := by
 have h : (2 : Nat) ^ (8 * j) = 256 ^ j := by rw [Nat.pow_mul]
 rw [← h]; simp
set_option maxRecDepth 100000 in
theorem shr_byte (x j : Nat) : (x : Int) / 2 ^ (8 * j) % 256 = ((UInt8.ofNat (x / 256 ^ j % 256)).toNat : Int) := by
 rw [pow8, UInt8.toNat_ofNat']
 have h3 : ((x : Int) / ((256 ^ j : Nat) : Int)) = ((x / 256 ^ j : Nat) : Int) := by simp
 rw [h3]
 generalize x / 256 ^ j = y
 omega
set_option maxRecDepth 100000 in
theorem be_at (x s k : Nat) (hk : k < s) : (be x s).take (k + 1) = (be x s).take k ++ [UInt8.ofNat (x / 256 ^ (s - 1 - k) % 256)] := by
 rw [List.take_succ_eq_append_getElem (by rw [be_len]; exact hk)]
 simp [be]

set_option maxRecDepth 100000 in
theorem BoxB.put {w : World} {g B : Nat} {t : TypeId} {o n c : Nat} {l m : List UInt8} {q : UInt8} (h : BoxB w g B t o n c (patch l o m)) (hol : o + n ≤ l.length) (hm : m.length < n) :
 BoxB ((w.setCell ⟨B, o + m.length, none⟩ (.int .u8 (q.toNat : Int))).drew) g B t o n c (patch l o (m ++ [q])) := by
 obtain ⟨h1, h2, h3, h4, h5⟩ := h
 have hf : Fr (fun k => k = B) w (w.setCell ⟨B, o + m.length, none⟩ (.int .u8 (q.toNat : Int))) := (Fr.refl (fun k => k = B) w).setCell (p := ⟨B, o + m.length, none⟩) (.inl rfl) _
 have k1 := h1.keep hf h3
 refine ⟨k1, ?_, h3, by rw [patch_len (by simp; omega)]; exact hol, h5⟩
 have h6 := h2.set_ (o + m.length) (.int .u8 (q.toNat : Int))
 rw [← patch_snoc (by omega)]
 have h7 : Blk (w.setCell ⟨B, o + m.length, none⟩ (.int .u8 (q.toNat : Int))) B t (cellsB ((patch l o m).set (o + m.length) q)).toArray := by
  simpa [cellsB, List.map_set] using h6
 exact h7
set_option maxRecDepth 100000 in
theorem put_any {w : World} {g B : Nat} {t : TypeId} {o n c : Nat} {l : List UInt8} (h : BoxB w g B t o n c l) (x s : Nat) (hx : x ≤ 18446744073709551615) (hs : s ≤ 8) (hn : s < n) :
 Calls Tryz.prog 153 #[.int .u64 x, .int .i64 s, .pointer (some ⟨g, 0, none⟩)] w fun e w' => e = .returned (.tuple #[]) ∧ BoxB w' g B t (o + s) (n - s) (c - s) (patch l o (be x s)) ∧ Fr (fun k => k = g ∨ k = B) w w' := by
 obtain ⟨h1, h2, hne, hol, hnc⟩ := h
 have hc0 := h1.cell 0
 have hf0 := h1.frozen 0
 simp at hc0
 go_enter Tryz.func153, Tryz.ntmps153
 go_wp2_with fail
 go_loopw [7] (fun i wr => ∃ k : Nat, i = .int .i64 k ∧ k ≤ s ∧ BoxB wr g B t o n c (patch l o ((be x s).take k)) ∧ Fr (fun k => k = g ∨ k = B) w wr) (fun i _ => s - (intOf i).toNat)
 case atStart => exact ⟨0, rfl, Nat.zero_le _, ⟨h1, by simpa [patch] using h2, hne, by simpa [patch] using hol, hnc⟩, Fr.refl _ _⟩
 case round =>
  obtain ⟨k, rfl, hk, hbox, hfr⟩ := hrel
  have HB := Lib.hid hbox
  have HF := Lib.hid hfr
  clear hbox hfr h1 h2 hc0 hf0
  by_cases hlt : k < s
  · obtain ⟨j, hj⟩ : ∃ j, j = s - 1 - k := ⟨_, rfl⟩
    have e1 : ((s : Int) - 1 - (k : Int)) = (j : Int) := by omega
    have hc0 := HB.out.1.cell 0
    simp at hc0
    have hl := HB.out.2.2.2.1
    have hnk : k < n := by omega
    have hpl : (patch l o ((be x s).take k)).length = l.length := patch_len (by rw [List.length_take, be_len]; omega)
    have hcb : ∃ v, wr.cell? ⟨B, o + k, none⟩ = some v := by
     rw [HB.out.2.1.cell]
     exact ⟨_, Array.getElem?_eq_getElem (by simp [cellsB_len, hpl]; omega)⟩
    obtain ⟨vb, hvb⟩ := hcb
    have hfb := HB.out.2.1.frozen (o + k)
    have hi0 : (0 : Int) ≤ (k : Int) := by omega
    have hi1 : (k : Int) < (n : Int) := by omega
    clear hl
    go_wp2_with fail
    go_region
    go_wp2_with fail
    have hml : ((be x s).take k).length = k := by rw [List.length_take, be_len]; omega
    have hput := HB.out.put (q := UInt8.ofNat (x / 256 ^ (s - 1 - k) % 256)) hol (by rw [hml]; exact hnk)
    rw [hml, ← be_at x s k hlt, ← shr_byte] at hput
    exact ⟨⟨k + 1, by go_num, hlt, hput, (HF.out.setCell (p := ⟨B, o + k, none⟩) (.inl (.inr rfl)) _).drew⟩, by simp [intOf]; omega⟩
  · obtain rfl : k = s := by omega
    have hc0 := HB.out.1.cell 0
    have hf0 := HB.out.1.frozen 0
    simp at hc0
    have ht : (be x k).take k = be x k := by rw [List.take_of_length_le]; rw [be_len]; exact Nat.le_refl _
    rw [ht] at HB
    clear ht
    go_wp2_with fail
    go_end0
    obtain ⟨q1, q2, q3, q4, q5⟩ := HB.out
    have hf : Fr (fun i => i = g) wr (wr.setCell ⟨g, 0, none⟩ (.slice (some ⟨B, o + k, none⟩) (n - k) (c - k))) := (Fr.refl (fun i => i = g) wr).setCell (p := ⟨g, 0, none⟩) (.inl rfl) _
    exact ⟨rfl, ⟨q1.set_ 0 _, q2.keep hf (fun e => q3 e.symm), q3, by omega, by omega⟩, HF.out.setCell (p := ⟨g, 0, none⟩) (.inl (.inl rfl)) _⟩
def numOf (l : List UInt8) : Nat := l.foldl (fun n c => n * 256 + c.toNat) 0
set_option maxRecDepth 100000 in
theorem numOf_from (l : List UInt8) : ∀ n, l.foldl (fun n c => n * 256 + c.toNat) n = n * 256 ^ l.length + numOf l := by
 induction l with
 | nil => intro n; simp [numOf]
 | cons c l ih =>
   intro n
   simp only [List.foldl_cons, List.length_cons, numOf]
   rw [ih, ih, Nat.zero_mul, Nat.zero_add, Nat.pow_succ', Nat.add_mul, Nat.mul_assoc, Nat.add_assoc]
set_option maxRecDepth 100000 in
theorem numOf_app (p q : List UInt8) : numOf (p ++ q) = numOf p * 256 ^ q.length + numOf q := by
 unfold numOf
 rw [List.foldl_append, numOf_from]
 rfl
set_option maxRecDepth 100000 in
theorem numOf_lt (l : List UInt8) : numOf l < 256 ^ l.length := by
 induction l with
 | nil => simp [numOf]
 | cons c l ih =>
   have e : c :: l = [c] ++ l := rfl
   rw [e, numOf_app]
   have hc := c.toNat_lt
   have h1 : numOf [c] = c.toNat := by simp [numOf]
   have h2 : ([c] ++ l).length = l.length + 1 := by simp
   rw [h1, h2, Nat.pow_succ']
   calc c.toNat * 256 ^ l.length + numOf l < c.toNat * 256 ^ l.length + 256 ^ l.length := by omega
    _ = (c.toNat + 1) * 256 ^ l.length := by rw [Nat.add_mul, Nat.one_mul]
    _ ≤ 256 * 256 ^ l.length := Nat.mul_le_mul_right _ (by omega)

set_option maxRecDepth 100000 in
theorem or_shift (a b k : Nat) (hb : b < 2 ^ k) (h : a * 2 ^ k + b < 18446744073709551616) : bits .or .u64 ((a : Int) * ((2 ^ k : Nat) : Int)) (b : Int) = ((a * 2 ^ k + b : Nat) : Int) := by
 have e : (a : Int) * ((2 ^ k : Nat) : Int) = ((a * 2 ^ k : Nat) : Int) := by rw [Int.natCast_mul]
 rw [e, u64_or_nat _ _ (by omega) (by omega)]
 congr 1
 rw [Nat.mul_comm, ← Nat.two_pow_add_eq_or_of_lt hb]

set_option maxRecDepth 100000 in
theorem take_snoc' {l : List UInt8} {k : Nat} {x : UInt8} (hx : l[k]? = some x) : l.take (k + 1) = l.take k ++ [x] := by
 rw [List.take_add_one, hx]; rfl
set_option maxRecDepth 100000 in
theorem numOf_step {l : List UInt8} {k s : Nat} {x : UInt8} (hx : l[k]? = some x) (hk : k < s) (hs : s ≤ 8) :
 bits BinOp.or IntKind.u64 (IntKind.u64.wrap ((numOf (l.take k) : Int) * 256)) (IntKind.u64.wrap (x.toNat : Int)) = ((numOf (l.take (k + 1)) : Nat) : Int) := by
 have h1 := numOf_lt (l.take k)
 have h2 : (l.take k).length ≤ 7 := by rw [List.length_take]; omega
 have h3 : 256 ^ (l.take k).length ≤ 256 ^ 7 := Nat.pow_le_pow_right (by omega) h2
 have hx8 := x.toNat_lt
 have e1 : IntKind.u64.wrap ((numOf (l.take k) : Int) * 256) = (numOf (l.take k) : Int) * ((2 ^ 8 : Nat) : Int) := by
  simp [IntKind.wrap, IntKind.signed, IntKind.bits]; omega
 have e2 : IntKind.u64.wrap (x.toNat : Int) = (x.toNat : Int) := by
  simp [IntKind.wrap, IntKind.signed, IntKind.bits]; omega
 rw [e1, e2, or_shift _ _ 8 hx8 (by omega), take_snoc' hx, numOf_app]
 have h4 : numOf [x] = x.toNat := by simp [numOf]
 rw [h4]
 rfl
def BoxR (w : World) (g : Nat) (A : Option Addr) (n c : Nat) (l : List UInt8) : Prop :=
 Blk w g 46 #[.slice A n c] ∧ Rd w A n l ∧ n ≤ c ∧ (A = none → c = 0) ∧ ∀ ad, A = some ad → ad.block ≠ g
set_option maxRecDepth 100000 in
theorem take_any {w : World} {g : Nat} {A : Option Addr} {n c : Nat} {l : List UInt8} (h : BoxR w g A n c l) (s : Nat) (hs : s ≤ 8) (hn : s ≤ n) :
 Calls Tryz.prog 152 #[.int .i64 s, .pointer (some ⟨g, 0, none⟩)] w fun e w' => e = .returned (.int .u64 (numOf (l.take s) : Nat)) ∧ (∃ A', BoxR w' g A' (n - s) (c - s) (l.drop s) ∧ ∀ ad, A' = some ad → ∃ ad0, A = some ad0 ∧ ad.block = ad0.block) ∧ Fr (fun k => k = g) w w' := by
 obtain ⟨h1, h2, hnc, hA, hne⟩ := h
 have hl := h2.len
 have hc0 := h1.cell 0
 simp at hc0
 have hst := slice_to (P := Tryz.prog) (t := 46) Tryz.underlying46 (fun w => by go_simp) h2 hnc s hn
 obtain ⟨A', hsf, hrf, hAf, hbf⟩ := slice_from (P := Tryz.prog) (t := 46) Tryz.underlying46 (fun w => by go_simp) h2 hnc hA s hn
 have hs1 := hst.1
 have HR := Lib.hid (And.intro h1 (And.intro h2 (And.intro hst.2 (And.intro hrf (And.intro hAf hbf)))))
 clear hst hrf hAf hbf h1 h2
 go_enter Tryz.func152, Tryz.ntmps152
 go_wp2_with fail
 go_loopw [4, 11] (fun m i wr => ∃ k : Nat, i = .int .i64 k ∧ k ≤ s ∧ m = .int .u64 (numOf (l.take k) : Nat) ∧ wr = w) (fun _ i _ => s - (intOf i).toNat)
 case atStart => exact ⟨0, rfl, Nat.zero_le _, rfl, rfl⟩
 case round =>
  obtain ⟨k, rfl, hk, rfl, rfl⟩ := hrel
  by_cases hlt : k < s
  · obtain ⟨ad, x, hA1, hx, hcell⟩ := HR.out.2.1.at_ (k := k) (by omega)
    subst hA1
    have hi0 : (0 : Int) ≤ (k : Int) := by omega
    have hi1 : (k : Int) < (s : Int) := by omega
    go_wp2_with fail
    exact ⟨⟨k + 1, by go_num, hlt, congrArg _ (numOf_step hx hlt hs), trivial⟩, by simp [intOf]; omega⟩
  · obtain rfl : k = s := by omega
    have hf0 := HR.out.1.frozen 0
    go_wp2_with fail
    go_ret
    obtain ⟨q1, q2, q3, q4, q5, q6⟩ := HR.out
    have hf : Fr (fun i => i = g) wr (wr.setCell ⟨g, 0, none⟩ (.slice A' (n - k) (c - k))) := (Fr.refl (fun i => i = g) wr).setCell (p := ⟨g, 0, none⟩) (.inl rfl) _
    have hne' : ∀ ad, A' = some ad → ad.block ≠ g := fun ad e => by
     obtain ⟨ad0, e0, e1⟩ := q6 ad e
     rw [e1]
     exact hne ad0 e0
    exact ⟨rfl, ⟨A', ⟨q1.set_ 0 _, q4.keep hf hne', by omega, q5, hne'⟩, q6⟩, hf⟩
end Go.Proofs.YtcnlgbjkjlbmbaaGreat

namespace Go.Proofs.YtcnlgbjkjlbmbaaGreat
open Go.RowKit

def many (n : Nat) : Nat := (51 + n) / 48
set_option maxRecDepth 100000 in
theorem halvesFor_any (w : World) (n : Nat) (hn : n ≤ 4611686018427387904) : Calls Tryz.prog 111 #[.int .i64 n] w fun e w' => e = .returned (.int .i64 (many n : Nat)) ∧ w = w' := by
 have e1 : IntKind.i64.wrap (4 + (n : Int)) = 4 + (n : Int) := by simp [IntKind.wrap, IntKind.signed, IntKind.bits]; omega
 have e2 : IntKind.i64.wrap (4 + (n : Int) + 48) = 4 + (n : Int) + 48 := by simp [IntKind.wrap, IntKind.signed, IntKind.bits]; omega
 have e3 : IntKind.i64.wrap (4 + (n : Int) + 48 - 1) = 4 + (n : Int) + 48 - 1 := by simp [IntKind.wrap, IntKind.signed, IntKind.bits]; omega
 go_enter Tryz.func111, Tryz.ntmps111
 go_wp2_with fail
 go_ret
 refine ⟨congrArg (fun z => Ending.returned (Value.int .i64 z)) (?_ : (4 + (n : Int) + 48 - 1) / 48 = ((many n : Nat) : Int)), rfl⟩
 unfold many
 omega
def needN (n : Int) : Nat := if n < 0 ∨ 32768 < n then 0 else (many n.toNat + 1) / 2
set_option maxRecDepth 100000 in
theorem need_any (w : World) (n : Int) : Calls Tryz.prog 81 #[.int .i64 n] w fun e w' => e = .returned (.int .i64 (needN n : Nat)) ∧ w = w' := by
 by_cases h0 : n < 0
 · have : needN n = 0 := by simp [needN, h0]
   rw [this]
   go_enter Tryz.func81, Tryz.ntmps81
   go_wp2_with fail
   go_ret
   exact ⟨rfl, rfl⟩
 by_cases h1 : 32768 < n
 · have : needN n = 0 := by simp [needN, h1]
   rw [this]
   go_enter Tryz.func81, Tryz.ntmps81
   go_wp2_with fail
   go_ret
   exact ⟨rfl, rfl⟩
 obtain ⟨k, rfl⟩ := Int.eq_ofNat_of_zero_le (Int.not_lt.1 h0)
 have hn : needN (k : Int) = (many k + 1) / 2 := by simp [needN]; omega
 rw [hn]
 have hm : many k ≤ 1000 := by unfold many; omega
 have HM := Lib.hid (halvesFor_any w k (by omega))
 generalize many k = m at *
 go_enter Tryz.func81, Tryz.ntmps81
 go_wp2_with fail
 (with_reducible refine HM.out.mono ?_)
 rintro e w1 ⟨rfl, rfl⟩
 go_wp2_with fail
 go_ret
 exact ⟨congrArg (fun z => Ending.returned (Value.int .i64 z)) (by omega : ((m : Int) + 1) / 2 = (((m + 1) / 2 : Nat) : Int)), rfl⟩

def mayT (c : Nat) (n : Int) : Bool := decide (1 ≤ c) && decide (c ≤ 4611686018427387904) && decide (0 ≤ n) && decide (n ≤ 2147483647)
set_option maxRecDepth 100000 in
theorem may_any (w : World) (c : Nat) (n : Int) : Calls Tryz.prog 124 #[.agg #[.int .u64 c, .int .i64 n]] w fun e w' => e = .returned (.bool (mayT c n)) ∧ Fr (fun _ => False) w w' := by
 go_enter Tryz.func124, Tryz.ntmps124
 go_wp2_with fail
 all_goals
  go_ret
  refine ⟨congrArg (fun b => Ending.returned (Value.bool b)) ?_, (Fr.refl _ _).alloc _⟩
  unfold mayT
  rw [Bool.eq_iff_iff]
  simp
  omega

structure Hd where
 c : Nat
 n : Nat
 p : Nat
 m : Nat
def hdOf (h : List UInt8) : Hd := ⟨numOf (h.take 8), numOf ((h.drop 8).take 4), numOf ((h.drop 12).take 2), numOf ((h.drop 14).take 2)⟩
abbrev hdV (x : Hd) : Value := .agg #[.int .u64 (x.c : Nat), .int .i64 (x.n : Nat), .int .i64 (x.p : Nat), .int .i64 (x.m : Nat)]

set_option maxRecDepth 100000 in
theorem infoHead : (Tryz.prog.info? 180).map (·.size) = some 4 := by kernel_rfl
set_option maxRecDepth 100000 in
theorem Blk.rd {w : World} {b : Nat} {t : TypeId} {l : List UInt8} (h : Blk w b t (cellsB l).toArray) (hl : 0 < l.length) : Rd w (some ⟨b, 0, none⟩) l.length l := by
 refine ⟨rfl, fun _ => ⟨_, rfl, fun j c hc => ?_⟩⟩
 have e : (⟨b, 0, none⟩ : Addr).add j = ⟨b, j, none⟩ := by rw [Addr.add_mid]; simp
 rw [e, h.cell]
 simp [cellsB, hc]
set_option maxRecDepth 100000 in
theorem BoxR.keep {F : Nat → Prop} {w w' : World} {g : Nat} {A : Option Addr} {n c : Nat} {l : List UInt8} (h : BoxR w g A n c l) (f : Fr F w w') (hg : ¬ F g) (hA : ∀ ad, A = some ad → ¬ F ad.block) : BoxR w' g A n c l := by
 obtain ⟨h1, h2, h3, h4, h5⟩ := h
 exact ⟨h1.keep f hg, h2.keep f hA, h3, h4, h5⟩

set_option maxRecDepth 100000 in
theorem take_is {w : World} {g : Nat} {A : Option Addr} {n c : Nat} {l l' : List UInt8} {N : Nat} (h : BoxR w g A n c l) (s : Nat) (hs : s ≤ 8) (hn : s ≤ n) (e : numOf (l.take s) = N ∧ l.drop s = l') :
 Calls Tryz.prog 152 #[.int .i64 s, .pointer (some ⟨g, 0, none⟩)] w fun e w' => e = .returned (.int .u64 (N : Nat)) ∧ (∃ A', BoxR w' g A' (n - s) (c - s) l' ∧ ∀ ad, A' = some ad → ∃ ad0, A = some ad0 ∧ ad.block = ad0.block) ∧ Fr (fun k => k = g) w w' := by
 have := take_any h s hs hn
 rw [e.1, e.2] at this
 exact this
set_option maxRecDepth 100000 in
theorem headOf_any (w : World) (h : List UInt8) (hl : h.length = 64) : Calls Tryz.prog 139 #[av h] w fun e w' => e = .returned (hdV (hdOf h)) ∧ Fr (fun _ => False) w w' := by
 obtain ⟨N0, N1, N2, N3, l1, l2, l3, l4, q0, q1, q2, q3, b1, b2, b3, hE⟩ : ∃ N0 N1 N2 N3 l1 l2 l3 l4, (numOf (h.take 8) = N0 ∧ h.drop 8 = l1) ∧ (numOf (l1.take 4) = N1 ∧ l1.drop 4 = l2) ∧ (numOf (l2.take 2) = N2 ∧ l2.drop 2 = l3) ∧ (numOf (l3.take 2) = N3 ∧ l3.drop 2 = l4) ∧
  N1 < 4294967296 ∧ N2 < 65536 ∧ N3 < 65536 ∧ hdOf h = ⟨N0, N1, N2, N3⟩ := by
  refine ⟨_, _, _, _, _, _, _, _, ⟨rfl, rfl⟩, ⟨rfl, rfl⟩, ⟨rfl, rfl⟩, ⟨rfl, rfl⟩, ?_, ?_, ?_, by simp [hdOf]⟩
  · have := numOf_lt ((h.drop 8).take 4); simpa [hl] using this
  · have := numOf_lt (((h.drop 8).drop 4).take 2); simpa [hl] using this
  · have := numOf_lt ((((h.drop 8).drop 4).drop 2).take 2); simpa [hl] using this
 rw [hE]
 have Q := Lib.hid (And.intro q0 (And.intro q1 (And.intro q2 q3)))
 clear q0 q1 q2 q3 hE
 go_enter Tryz.func139, Tryz.ntmps139
 go_wp2_with (first
  | (refine wpList_put rfl 177 _ rfl _ rfl ?_))
 have HR : Hid (Rd ((w.alloc (.cells (cellsB h).toArray 177)).alloc (.cells #[.int .u64 0, .int .i64 0, .int .i64 0, .int .i64 0] 180)) (some ⟨w.heap.size, 0, none⟩) 64 h) := Lib.hid (by
  have h1 := ((Blk.new w 177 (cellsB h).toArray).keep (F := fun _ => False) ((Fr.refl _ _).alloc (.cells #[.int .u64 0, .int .i64 0, .int .i64 0, .int .i64 0] 180)) (fun q => q)).rd (by omega)
  rw [hl] at h1
  exact h1)
 have HK : Hid (Blk ((w.alloc (.cells (cellsB h).toArray 177)).alloc (.cells #[.int .u64 0, .int .i64 0, .int .i64 0, .int .i64 0] 180)) (w.heap.size + 1) 180 #[.int .u64 0, .int .i64 0, .int .i64 0, .int .i64 0]) := Lib.hid (by
  have h1 := Blk.new (w.alloc (.cells (cellsB h).toArray 177)) 180 #[.int .u64 0, .int .i64 0, .int .i64 0, .int .i64 0]
  simpa using h1)
 have HF : Hid (Fr (fun _ => False) w ((w.alloc (.cells (cellsB h).toArray 177)).alloc (.cells #[.int .u64 0, .int .i64 0, .int .i64 0, .int .i64 0] 180))) := Lib.hid (((Fr.refl _ w).alloc _).alloc _)
 have HS : Hid (((w.alloc (.cells (cellsB h).toArray 177)).alloc (.cells #[.int .u64 0, .int .i64 0, .int .i64 0, .int .i64 0] 180)).heap.size = w.heap.size + 2) := Lib.hid (by simp)
 generalize (w.alloc (.cells (cellsB h).toArray 177)).alloc (.cells #[.int .u64 0, .int .i64 0, .int .i64 0, .int .i64 0] 180) = W at *
 refine (taker_any _ _ _ _).mono ?_
 rintro e w1 ⟨rfl, rfl⟩
 have hne : w.heap.size ≠ W.heap.size := by have := HS.out; omega
 have HB := Lib.hid (show BoxR (W.alloc (.cells #[.slice (some ⟨w.heap.size, 0, none⟩) 64 64] 46)) W.heap.size (some ⟨w.heap.size, 0, none⟩) 64 64 h from
  ⟨Blk.new W _ _, HR.out.keep (F := fun _ => False) ((Fr.refl _ W).alloc _) (fun _ _ q => q), Nat.le_refl _, (fun e => by cases e), fun ad e => by injection e with e; rw [← e]; exact hne⟩)
 go_wp2_with fail
 refine (take_is HB.out 8 (by omega) (by omega) Q.out.1).mono ?_
 rintro e w1 ⟨rfl, ⟨A1, hb1, ha1⟩, hf1⟩
 have H1 := Lib.hid (And.intro hb1 (And.intro ha1 hf1))
 clear hb1 ha1 hf1
 go_wp2_with fail
 refine (take_is H1.out.1 4 (by omega) (by omega) Q.out.2.1).mono ?_
 rintro e w2 ⟨rfl, ⟨A2, hb2, ha2⟩, hf2⟩
 have H2 := Lib.hid (And.intro hb2 (And.intro ha2 hf2))
 clear hb2 ha2 hf2
 go_wp2_with fail
 refine (take_is H2.out.1 2 (by omega) (by omega) Q.out.2.2.1).mono ?_
 rintro e w3 ⟨rfl, ⟨A3, hb3, ha3⟩, hf3⟩
 have H3 := Lib.hid (And.intro hb3 (And.intro ha3 hf3))
 clear hb3 ha3 hf3
 go_wp2_with fail
 refine (take_is H3.out.1 2 (by omega) (by omega) Q.out.2.2.2).mono ?_
 rintro e w4 ⟨rfl, ⟨A4, hb4, ha4⟩, hf4⟩
 have hfr : Fr (fun k => k = W.heap.size) (W.alloc (.cells #[.slice (some ⟨w.heap.size, 0, none⟩) 64 64] 46)) w4 := ((H1.out.2.2.trans H2.out.2.2 (fun _ _ q => q)).trans H3.out.2.2 (fun _ _ q => q)).trans hf4 (fun _ _ q => q)
 have hk4 := (HK.out.keep (F := fun _ => False) ((Fr.refl _ W).alloc (.cells #[.slice (some ⟨w.heap.size, 0, none⟩) 64 64] 46)) (fun q => q)).keep hfr (by have := HS.out; omega)
 have c0 := hk4.cell 0
 have c1 := hk4.cell 1
 have c2 := hk4.cell 2
 have c3 := hk4.cell 3
 have f0 := hk4.frozen 0
 have f1 := hk4.frozen 1
 have f2 := hk4.frozen 2
 have f3 := hk4.frozen 3
 simp at c0 c1 c2 c3
 have HX := Lib.hid (And.intro hk4 hfr)
 clear hk4 hfr hb4 ha4 hf4 H1 H2 H3 HB HR
 go_wp2_with fail
 refine bodyPost_ret (results_cell_row rfl _ _ (w.heap.size + 1) 180 #[.int .u64 (N0 : Nat), .int .i64 (N1 : Nat), .int .i64 (N2 : Nat), .int .i64 (N3 : Nat)] (0, 0) _ rfl ?_ Tryz.underlying180 rfl infoHead) rfl ?_
 · have h1 := (((HX.out.1.set_ 0 (.int .u64 (N0 : Nat))).set_ 1 (.int .i64 (N1 : Nat))).set_ 2 (.int .i64 (N2 : Nat))).set_ 3 (.int .i64 (N3 : Nat))
   exact h1
 · have h0 := HF.out.size
   exact ⟨rfl, ((((((HF.out.alloc _).trans HX.out.2 (fun i hi q => by omega)).setCell (p := ⟨w.heap.size + 1, 0, none⟩) (.inr (Nat.le_succ _)) _).setCell (p := ⟨w.heap.size + 1, 1, none⟩) (.inr (Nat.le_succ _)) _).setCell (p := ⟨w.heap.size + 1, 2, none⟩) (.inr (Nat.le_succ _)) _).setCell (p := ⟨w.heap.size + 1, 3, none⟩) (.inr (Nat.le_succ _)) _)⟩

def tagB (x : Hd) (p : List UInt8) : List UInt8 := be x.c 8 ++ (be x.n 4 ++ (be x.p 2 ++ (be x.m 2 ++ p)))
set_option maxRecDepth 100000 in
theorem tagB_len (x : Hd) {p : List UInt8} (hp : p.length = 48) : (tagB x p).length = 64 := by simp [tagB, be_len, hp]
set_option maxRecDepth 100000 in
theorem patch_app (a b m : List UInt8) : patch (a ++ b) a.length m = a ++ (m ++ b.drop m.length) := by
 unfold patch
 rw [List.take_left' rfl, ← List.drop_drop, List.drop_left' rfl]
set_option maxRecDepth 100000 in
theorem nought_drop (n k : Nat) : (nought n).drop k = nought (n - k) := by simp [nought]
set_option maxRecDepth 100000 in
theorem tagB_eq (x : Hd) {p : List UInt8} (hp : p.length = 48) : patch (patch (patch (patch (patch (nought 64) 0 (be x.c 8)) 8 (be x.n 4)) 12 (be x.p 2)) 14 (be x.m 2)) 16 p = tagB x p := by
 have h0 : patch (nought 64) 0 (be x.c 8) = be x.c 8 ++ nought 56 := by
  have := patch_app [] (nought 64) (be x.c 8)
  simpa [be_len, nought_drop] using this
 have h1 : patch (be x.c 8 ++ nought 56) 8 (be x.n 4) = (be x.c 8 ++ be x.n 4) ++ nought 52 := by
  have := patch_app (be x.c 8) (nought 56) (be x.n 4)
  simpa [be_len, nought_drop] using this
 have h2 : patch ((be x.c 8 ++ be x.n 4) ++ nought 52) 12 (be x.p 2) = (be x.c 8 ++ be x.n 4 ++ be x.p 2) ++ nought 50 := by
  have := patch_app (be x.c 8 ++ be x.n 4) (nought 52) (be x.p 2)
  simpa [be_len, nought_drop] using this
 have h3 : patch ((be x.c 8 ++ be x.n 4 ++ be x.p 2) ++ nought 50) 14 (be x.m 2) = (be x.c 8 ++ be x.n 4 ++ be x.p 2 ++ be x.m 2) ++ nought 48 := by
  have := patch_app (be x.c 8 ++ be x.n 4 ++ be x.p 2) (nought 50) (be x.m 2)
  simpa [be_len, nought_drop] using this
 have h4 : patch ((be x.c 8 ++ be x.n 4 ++ be x.p 2 ++ be x.m 2) ++ nought 48) 16 p = (be x.c 8 ++ be x.n 4 ++ be x.p 2 ++ be x.m 2) ++ p := by
  have := patch_app (be x.c 8 ++ be x.n 4 ++ be x.p 2 ++ be x.m 2) (nought 48) p
  simpa [be_len, nought_drop, hp, nought] using this
 rw [h0, h1, h2, h3, h4]
 simp [tagB]

set_option maxRecDepth 100000 in
theorem alloc4 (w : World) (C0 C1 C2 C3 : Array Value) (t0 t1 t2 t3 : TypeId) : ∃ W, W = (((w.alloc (.cells C0 t0)).alloc (.cells C1 t1)).alloc (.cells C2 t2)).alloc (.cells C3 t3) ∧ Blk W w.heap.size t0 C0 ∧ Blk W (w.heap.size + 1) t1 C1 ∧ Blk W (w.heap.size + 1 + 1) t2 C2 ∧ Blk W (w.heap.size + 1 + 1 + 1) t3 C3 ∧ W.heap.size = w.heap.size + 4 ∧ Fr (fun _ => False) w W := by
 have k : ∀ {W : World} {g : Nat} {t : TypeId} {cs : Array Value} (o : Obj), Blk W g t cs → Blk (W.alloc o) g t cs := fun o h => h.keep (F := fun _ => False) ((Fr.refl _ _).alloc o) (fun q => q)
 have n : ∀ (W : World) (t : TypeId) (C : Array Value) (g : Nat), W.heap.size = g → Blk (W.alloc (.cells C t)) g t C := fun W t C g e => e ▸ Blk.new W t C
 refine ⟨_, rfl, k _ (k _ (k _ (n _ _ _ _ rfl))), k _ (k _ (n _ _ _ _ (by simp))), k _ (n _ _ _ _ (by simp)), n _ _ _ _ (by simp), by simp, ((((Fr.refl _ w).alloc _).alloc _).alloc _).alloc _⟩
set_option maxRecDepth 100000 in
theorem putter_is (w : World) (B c : Nat) (t : TypeId) (l : List UInt8) (h : Blk w B t (cellsB l).toArray) (hl : c = l.length) :
 Calls Tryz.prog 143 #[.slice (some ⟨B, 0, none⟩) c c] w fun e w' => e = .returned (.func (.func 153) #[] #[.pointer (some ⟨w.heap.size, 0, none⟩)]) ∧ BoxB w' w.heap.size B t 0 c c l ∧ Fr (fun _ => False) w w' := by
 refine (putter_any w (some ⟨B, 0, none⟩) c c).mono ?_
 rintro e w' ⟨rfl, rfl⟩
 have := h.lt
 exact ⟨rfl, ⟨Blk.new w _ _, h.keep (F := fun _ => False) ((Fr.refl _ _).alloc _) (fun q => q), by omega, by omega, Nat.le_refl _⟩, (Fr.refl _ _).alloc _⟩

set_option maxRecDepth 100000 in
theorem tagged_any (w : World) (x : Hd) (p : List UInt8) (hp : p.length = 48) (h0 : x.c ≤ 18446744073709551615) (h1 : x.n ≤ 9223372036854775807) (h2 : x.p ≤ 9223372036854775807) (h3 : x.m ≤ 9223372036854775807) :
 Calls Tryz.prog 126 #[hdV x, av p] w fun e w' => e = .returned (av (tagB x p)) ∧ Fr (fun _ => False) w w' := by
 have HE := Lib.hid (tagB_eq x hp)
 obtain ⟨c, n, q, m⟩ := x
 simp only at h0 h1 h2 h3
 go_enter Tryz.func126, Tryz.ntmps126
 go_wp2_with (first
  | (refine wpList_zero rfl 177 rfl zeroHalf ?_)
  | (refine wpList_put rfl 175 _ rfl _ rfl ?_)
  | (refine wpList_put rfl 180 _ rfl _ rfl ?_))
 obtain ⟨W, hW, k0, k1, k2, k3, hsz, hfr⟩ := alloc4 w #[.int .u64 (c : Nat), .int .i64 (n : Nat), .int .i64 (q : Nat), .int .i64 (m : Nat)] (cellsB p).toArray (cellsB (nought 64)).toArray (cellsB (nought 64)).toArray 180 175 177 177
 rw [← hW]
 have HK := Lib.hid (And.intro k0 (And.intro k1 (And.intro k2 (And.intro k3 (And.intro hsz hfr)))))
 clear hW k0 k1 k2 k3 hsz hfr
 refine (putter_is W _ 64 _ _ HK.out.2.2.2.1 (by rw [nought_len])).mono ?_
 rintro e w1 ⟨rfl, hb1, hf1⟩
 have j0 := HK.out.1.keep hf1 (fun q => q)
 have e0 := j0.cell 0
 simp at e0
 have H1 := Lib.hid (And.intro hb1 (And.intro hf1 j0))
 clear hb1 hf1 j0
 go_wp2_with fail
 refine (put_any H1.out.1 c 8 (by omega) (by omega) (by omega)).mono ?_
 rintro e w2 ⟨rfl, hb2, hf2⟩
 clear e0
 have hne : ¬ (w.heap.size = W.heap.size ∨ w.heap.size = w.heap.size + 1 + 1 + 1) := by have := HK.out.2.2.2.2.1; omega
 have j0 := H1.out.2.2.keep hf2 hne
 have e0 := j0.cell 1
 simp at e0
 have H2 := Lib.hid (And.intro hb2 (And.intro hf2 j0))
 clear hb2 hf2 j0
 go_wp2_with fail
 refine (put_any H2.out.1 n 4 (by omega) (by omega) (by omega)).mono ?_
 rintro e w3 ⟨rfl, hb3, hf3⟩
 clear e0
 have j0 := H2.out.2.2.keep hf3 hne
 have e0 := j0.cell 2
 simp at e0
 have H3 := Lib.hid (And.intro hb3 (And.intro hf3 j0))
 clear hb3 hf3 j0
 go_wp2_with fail
 refine (put_any H3.out.1 q 2 (by omega) (by omega) (by omega)).mono ?_
 rintro e w4 ⟨rfl, hb4, hf4⟩
 clear e0
 have j0 := H3.out.2.2.keep hf4 hne
 have e0 := j0.cell 3
 simp at e0
 have H4 := Lib.hid (And.intro hb4 (And.intro hf4 j0))
 clear hb4 hf4 j0
 go_wp2_with fail
 refine (put_any H4.out.1 m 2 (by omega) (by omega) (by omega)).mono ?_
 rintro e w5 ⟨rfl, hb5, hf5⟩
 clear e0
 have hfw : Fr (fun k => k = W.heap.size ∨ k = w.heap.size + 1 + 1 + 1) W w5 := ((((H1.out.2.1.mono (fun _ _ q => q.elim)).trans H2.out.2.1 (fun _ _ q => q)).trans H3.out.2.1 (fun _ _ q => q)).trans H4.out.2.1 (fun _ _ q => q)).trans hf5 (fun _ _ q => q)
 have i1 := HK.out.2.1.keep hfw (by have := HK.out.2.2.2.2.1; omega)
 have i2 := HK.out.2.2.1.keep hfw (by have := HK.out.2.2.2.2.1; omega)
 have i3 := hb5.2.1
 have hlen : (patch (patch (patch (patch (nought 64) 0 (be c 8)) 8 (be n 4)) 12 (be q 2)) 14 (be m 2)).length = 64 := by
  have a1 : (patch (nought 64) 0 (be c 8)).length = 64 := by rw [patch_len] <;> simp [be_len, nought_len]
  have a2 : (patch (patch (nought 64) 0 (be c 8)) 8 (be n 4)).length = 64 := by rw [patch_len] <;> simp [be_len, a1]
  have a3 : (patch (patch (patch (nought 64) 0 (be c 8)) 8 (be n 4)) 12 (be q 2)).length = 64 := by rw [patch_len] <;> simp [be_len, a2]
  rw [patch_len] <;> simp [be_len, a3]
 have hcp : ∀ ty, (Builtin.copy_ #[46, 46] ty #[.slice (some ⟨w.heap.size + 1 + 1 + 1, 16, none⟩) 48 48, .slice (some ⟨w.heap.size + 1, 0, none⟩) 48 48]).run Tryz.prog w5.drew = .ok (goInt 48) (w5.drew.setCells (w.heap.size + 1 + 1 + 1) 16 (cellsB p)) := fun ty => by
  have h := run_copy_cells (P := Tryz.prog) w5.drew 46 46 ty 5 (w.heap.size + 1 + 1 + 1) 16 48 48 ⟨w.heap.size + 1, 0, none⟩ 48 48 (cellsB p) Tryz.underlying46 (by kernel_rfl) (by rw [cellsB_len, hp]; rfl)
   (fun j v hv => by rw [Addr.add_mid]; exact (i1.range 0 48) j v (by simpa [List.take_of_length_le (Nat.le_of_eq hp)] using hv)) (fun j hj => ((i3.there (o := 16) (n := 48) (by simp [cellsB_len, hlen])) j (by rw [cellsB_len, hp] at hj; exact hj)).1) (fun j hj => ((i3.there (o := 16) (n := 48) (by simp [cellsB_len, hlen])) j (by rw [cellsB_len, hp] at hj; exact hj)).2) (cellsB_one _)
  rw [cellsB_len, hp] at h
  exact h
 have H5 := Lib.hid (And.intro hfw (And.intro i2 (And.intro i3 hlen)))
 clear hfw i1 i2 i3 hlen hb5 hf5 H1 H2 H3 H4 hne
 go_wp2_with fail
 go_region
 clear hcp
 have t1 := Blk.over (w := w5.drew) (o := 16) (m := p) H5.out.2.2.1 (by rw [H5.out.2.2.2, hp]; omega)
 rw [HE.out] at t1
 have fB : Fr (fun k => k = w.heap.size + 1 + 1 + 1) w5.drew (w5.drew.setCells (w.heap.size + 1 + 1 + 1) 16 (cellsB p)) := Fr.setCells (F := fun k => k = w.heap.size + 1 + 1 + 1) (.inl rfl) (Fr.refl _ _)
 have t2 := Blk.keep (w := w5.drew) H5.out.2.1 fB (by omega)
 have t3 : Fr (fun _ => False) w (w5.drew.setCells (w.heap.size + 1 + 1 + 1) 16 (cellsB p)) := Fr.setCells (.inr (by omega)) ((HK.out.2.2.2.2.2.trans H5.out.1 (fun i hi q => by have := HK.out.2.2.2.2.1; omega)).drew)
 generalize w5.drew.setCells (w.heap.size + 1 + 1 + 1) 16 (cellsB p) = w6 at *
 have hlt := tagB_len (x := ⟨c, n, q, m⟩) hp
 have H6 := Lib.hid (And.intro t1 (And.intro t2 t3))
 clear t1 t2 t3 fB HE H5
 generalize hz : tagB ⟨c, n, q, m⟩ p = z at *
 have HZ := Lib.hid hz
 clear hz
 have HR : Hid (w6.rangeAt (w.heap.size + 1 + 1 + 1) 0 (cellsB z)) := Lib.hid (by
  have := H6.out.1.range 0 64
  rw [List.drop_zero, List.take_of_length_le (Nat.le_of_eq hlt)] at this
  exact this)
 go_wp2_with (first
  | (refine wpList_load_mid rfl 177 _ rfl (w.heap.size + 1 + 1 + 1) 0 rfl (cellsB z) _ HR.out Tryz.underlying177 rfl (by rw [infoHalf, cellsB_len, hlt]) ?_)
  | (refine wpList_store_mid rfl 177 _ _ rfl (w.heap.size + 1 + 1) 0 (cellsB z).toArray rfl rfl (H6.out.2.1.there (by simp [cellsB_len, nought_len, hlt])) (by rw [infoHalf]; simp [cellsB_len, hlt]) (all_oneCell_toArray (cellsB_one _)) ?_))
 refine bodyPost_ret (results_cell_row rfl _ _ (w.heap.size + 1 + 1) 177 (cellsB z).toArray (0, 0) _ rfl ?_ Tryz.underlying177 rfl (by rw [infoHalf]; simp [cellsB_len, hlt])) rfl ?_
 · have := H6.out.2.1.over (o := 0) (m := z) (by rw [nought_len, hlt]; omega)
   rw [patch_all (by rw [nought_len, hlt])] at this
   exact this
 · exact ⟨by rw [HZ.out], Fr.setCells (.inr (by omega)) H6.out.2.2⟩
end Go.Proofs.YtcnlgbjkjlbmbaaGreat

namespace Go.Proofs.YtcnlgbjkjlbmbaaGreat
open Go.RowKit

def tagOf (s : List UInt8) : Nat × Nat := let x := hdOf (s.take 64); if mayT x.c (x.n : Int) then (x.c, x.n) else (0, 0)
abbrev tagV (t : Nat × Nat) : Value := .agg #[.int .u64 (t.1 : Nat), .int .i64 (t.2 : Nat)]

set_option maxRecDepth 100000 in
theorem cut0_any (w : World) (s : List UInt8) (hs : s.length = 128) : Calls Tryz.prog 140 #[av s, .int .i64 0] w fun e w' => e = .returned (av (s.take 64)) ∧ Fr (fun _ => False) w w' := by
 have := cut_any w s hs 0 (by omega)
 simpa using this
set_option maxRecDepth 100000 in
theorem headOf_is (w : World) (h : List UInt8) (hl : h.length = 64) {c n q m : Nat} (e : hdOf h = ⟨c, n, q, m⟩) : Calls Tryz.prog 139 #[av h] w fun e w' => e = .returned (.agg #[.int .u64 (c : Nat), .int .i64 (n : Nat), .int .i64 (q : Nat), .int .i64 (m : Nat)]) ∧ Fr (fun _ => False) w w' := by
 have := headOf_any w h hl
 rw [e] at this
 exact this
set_option maxRecDepth 100000 in
theorem field_tag (w : World) (c n q m : Int) : (Instr.field 180 (.agg #[.int .u64 c, .int .i64 n, .int .i64 q, .int .i64 m]) 0).run Tryz.prog w = .ok (.agg #[.int .u64 c, .int .i64 n]) w := by kernel_rfl
set_option maxRecDepth 100000 in
theorem infoTag : (Tryz.prog.info? 148).map (·.size) = some 2 := by kernel_rfl
set_option maxRecDepth 100000 in
theorem tag_any (w : World) (s : List UInt8) (hs : s.length = 128) : Calls Tryz.prog 138 #[av s] w fun e w' => e = .returned (tagV (tagOf s)) ∧ Fr (fun _ => False) w w' := by
 have HC := Lib.hid fun w => cut0_any w s hs
 have hl : (s.take 64).length = 64 := by simp [hs]
 have HT : Hid (tagOf s = let x := hdOf (s.take 64); if mayT x.c (x.n : Int) then (x.c, x.n) else (0, 0)) := Lib.hid rfl
 obtain ⟨t, ht⟩ : ∃ t, t = tagOf s := ⟨_, rfl⟩
 rw [← ht] at HT ⊢
 generalize s.take 64 = h at *
 obtain ⟨x, hx⟩ : ∃ x, x = hdOf h := ⟨_, rfl⟩
 rw [← hx] at HT
 obtain ⟨c, n, q, m⟩ := x
 have HH := Lib.hid fun w => headOf_is w h hl hx.symm
 clear ht hx hl
 have hB : ∀ X, Blk ((w.alloc (.cells (cellsB s).toArray 83)).alloc X) w.heap.size 83 (cellsB s).toArray := fun X =>
  (Blk.new w _ _).keep (F := fun _ => False) ((Fr.refl _ _).alloc X) (fun h => h)
 have HR : Hid (∀ X, ((w.alloc (.cells (cellsB s).toArray 83)).alloc X).rangeAt w.heap.size 0 (cellsB s)) := Lib.hid fun X => by
  have := (hB X).range 0 128
  rw [List.drop_zero, List.take_of_length_le (Nat.le_of_eq hs)] at this
  exact this
 clear hB
 have hfld := fun w => field_tag w (c : Nat) (n : Nat) (q : Nat) (m : Nat)
 go_enter Tryz.func138, Tryz.ntmps138
 go_wp2_with (first
  | (refine wpList_put rfl 83 _ rfl _ rfl ?_)
  | (refine wpList_load_mid rfl 83 _ rfl w.heap.size 0 rfl (cellsB s) _ (HR.out _) Tryz.underlying83 rfl (by rw [infoSector, cellsB_len, hs]) ?_))
 (with_reducible refine (HC.out _).mono ?_)
 rintro e w1 ⟨rfl, hf1⟩
 have hres : Blk ((w.alloc (.cells (cellsB s).toArray 83)).alloc (.cells #[.int .u64 0, .int .i64 0] 148)) (w.heap.size + 1) 148 #[.int .u64 0, .int .i64 0] := by
  have := Blk.new (w.alloc (.cells (cellsB s).toArray 83)) 148 #[.int .u64 0, .int .i64 0]
  simpa using this
 have H1 := Lib.hid (And.intro (hres.keep hf1 (fun q => q)) (((Fr.refl (fun _ => False) w).alloc _ |>.alloc _).trans hf1 (fun _ _ q => q)))
 clear hf1 hres
 go_wp2_with fail
 (with_reducible refine (HH.out _).mono ?_)
 rintro e w2 ⟨rfl, hf2⟩
 have H2 := Lib.hid (And.intro (H1.out.1.keep hf2 (fun q => q)) (H1.out.2.trans hf2 (fun _ _ q => q)))
 clear hf2
 go_wp2_with fail
 refine (may_any _ c (n : Int)).mono ?_
 rintro e w3 ⟨rfl, hf3⟩
 have HD : Hid (w2.heap.size < (w2.alloc (.cells #[.int .u64 (c : Nat), .int .i64 (n : Nat)] 148)).heap.size) := Lib.hid (by simp)
 have j1 := (H2.out.1.keep (F := fun _ => False) ((Fr.refl _ _).alloc (.cells #[.int .u64 (c : Nat), .int .i64 (n : Nat)] 148)) (fun q => q)).keep hf3 (fun q => q)
 have j2 := (Blk.new w2 148 #[.int .u64 (c : Nat), .int .i64 (n : Nat)]).keep hf3 (fun q => q)
 have c0 := j2.cell 0
 have c1 := j2.cell 1
 have g0 := j1.cell 0
 have g1 := j1.cell 1
 have k0 := j1.frozen 0
 have k1 := j1.frozen 1
 simp at c0 c1 g0 g1
 have H3 := Lib.hid (And.intro j1 ((H2.out.2.alloc (.cells #[.int .u64 (c : Nat), .int .i64 (n : Nat)] 148)).trans hf3 (fun _ _ q => q)))
 clear hf3 j1 j2
 cases hm : mayT c (n : Int)
 · have ht : t = (0, 0) := by rw [HT.out]; simp [hm]
   subst ht
   go_wp2_with fail
   refine bodyPost_ret (results_cell_row rfl _ _ (w.heap.size + 1) 148 #[.int .u64 ((0 : Nat) : Int), .int .i64 ((0 : Nat) : Int)] (0, 0) _ rfl ?_ Tryz.underlying148 rfl infoTag) rfl ?_
   · exact (H3.out.1.set_ 0 _).set_ 1 _
   · exact ⟨rfl, (H3.out.2.setCell (p := ⟨w.heap.size + 1, 0, none⟩) (.inr (Nat.le_succ _)) _).setCell (p := ⟨w.heap.size + 1, 1, none⟩) (.inr (Nat.le_succ _)) _⟩
 · have ht : t = (c, n) := by rw [HT.out]; simp [hm]
   subst ht
   go_wp2_with fail
   refine bodyPost_ret (results_cell_row rfl _ _ (w.heap.size + 1) 148 #[.int .u64 (c : Int), .int .i64 (n : Int)] (0, 0) _ rfl ?_ Tryz.underlying148 rfl infoTag) rfl ?_
   · exact (H3.out.1.set_ 0 _).set_ 1 _
   · exact ⟨rfl, (H3.out.2.setCell (p := ⟨w.heap.size + 1, 0, none⟩) (.inr (Nat.le_succ _)) _).setCell (p := ⟨w.heap.size + 1, 1, none⟩) (.inr (Nat.le_succ _)) _⟩

set_option maxRecDepth 100000 in
theorem alloc3 (w : World) (C0 C1 C2 : Array Value) (t0 t1 t2 : TypeId) : ∃ W, W = ((w.alloc (.cells C0 t0)).alloc (.cells C1 t1)).alloc (.cells C2 t2) ∧ Blk W w.heap.size t0 C0 ∧ Blk W (w.heap.size + 1) t1 C1 ∧ Blk W (w.heap.size + 1 + 1) t2 C2 ∧ W.heap.size = w.heap.size + 3 ∧ Fr (fun _ => False) w W := by
 have k : ∀ {W : World} {g : Nat} {t : TypeId} {cs : Array Value} (o : Obj), Blk W g t cs → Blk (W.alloc o) g t cs := fun o h => h.keep (F := fun _ => False) ((Fr.refl _ _).alloc o) (fun q => q)
 have n : ∀ (W : World) (t : TypeId) (C : Array Value) (g : Nat), W.heap.size = g → Blk (W.alloc (.cells C t)) g t C := fun W t C g e => e ▸ Blk.new W t C
 exact ⟨_, rfl, k _ (k _ (n _ _ _ _ rfl)), k _ (n _ _ _ _ (by simp)), n _ _ _ _ (by simp), by simp, (((Fr.refl _ w).alloc _).alloc _).alloc _⟩

def tornOf (a b : List UInt8) : List UInt8 := a.take 64 ++ b.drop 64
set_option maxRecDepth 100000 in
theorem torn_any (w : World) (a b : List UInt8) (ha : a.length = 128) (hb : b.length = 128) : Calls Tryz.prog 100 #[av a, av b] w fun e w' => e = .returned (av (tornOf a b)) ∧ Fr (fun _ => False) w w' := by
 go_enter Tryz.func100, Tryz.ntmps100
 go_wp2_with (first
  | (refine wpList_zero rfl 83 rfl zeroSector ?_)
  | (refine wpList_put rfl 83 _ rfl _ rfl ?_))
 obtain ⟨W, hW, k0, k1, k2, hsz, hfr⟩ := alloc3 w (cellsB a).toArray (cellsB b).toArray (cellsB (nought 128)).toArray 83 83 83
 rw [← hW]
 have hcp : ∀ ty, (Builtin.copy_ #[46, 46] ty #[.slice (some ⟨w.heap.size, 64, none⟩) 64 64, .slice (some ⟨w.heap.size + 1, 64, none⟩) 64 64]).run Tryz.prog W.drew = .ok (goInt 64) (W.drew.setCells w.heap.size 64 (cellsB (b.drop 64))) := fun ty => by
  have hl : (b.drop 64).length = 64 := by simp [hb]
  have h := run_copy_cells (P := Tryz.prog) W.drew 46 46 ty 5 w.heap.size 64 64 64 ⟨w.heap.size + 1, 64, none⟩ 64 64 (cellsB (b.drop 64)) Tryz.underlying46 (by kernel_rfl) (by rw [cellsB_len, hl]; rfl)
   (fun j v hv => by rw [Addr.add_mid]; exact (k1.range 64 64) j v (by rw [List.take_of_length_le (Nat.le_of_eq hl)]; exact hv)) (fun j hj => ((k0.there (o := 64) (n := 64) (by simp [cellsB_len, ha])) j (by rw [cellsB_len, hl] at hj; exact hj)).1) (fun j hj => ((k0.there (o := 64) (n := 64) (by simp [cellsB_len, ha])) j (by rw [cellsB_len, hl] at hj; exact hj)).2) (cellsB_one _)
  rw [cellsB_len, hl] at h
  exact h
 have HK := Lib.hid (And.intro k0 (And.intro k1 (And.intro k2 (And.intro hsz hfr))))
 clear hW k0 k1 k2 hsz hfr
 go_wp2_with fail
 go_region
 clear hcp
 have hbl : (b.drop 64).length = 64 := by simp [hb]
 have t1 := Blk.over (w := W.drew) (o := 64) (m := b.drop 64) HK.out.1 (by rw [hbl, ha]; omega)
 have e1 : patch a 64 (b.drop 64) = tornOf a b := by
  have h1 : a.drop 128 = [] := List.drop_eq_nil_of_le (by omega)
  simp [patch, tornOf, hb, h1]
 rw [e1] at t1
 have fB : Fr (fun k => k = w.heap.size) W.drew (W.drew.setCells w.heap.size 64 (cellsB (b.drop 64))) := Fr.setCells (F := fun k => k = w.heap.size) (.inl rfl) (Fr.refl _ _)
 have t2 := Blk.keep (w := W.drew) HK.out.2.2.1 fB (by omega)
 have t3 : Fr (fun _ => False) w (W.drew.setCells w.heap.size 64 (cellsB (b.drop 64))) := Fr.setCells (.inr (Nat.le_refl _)) HK.out.2.2.2.2.drew
 generalize W.drew.setCells w.heap.size 64 (cellsB (b.drop 64)) = w6 at *
 have hlt : (tornOf a b).length = 128 := by simp [tornOf, ha, hb]
 have H6 := Lib.hid (And.intro t1 (And.intro t2 t3))
 clear t1 t2 t3 fB e1
 generalize hz : tornOf a b = z at *
 have HZ := Lib.hid hz
 clear hz
 have HR : Hid (w6.rangeAt w.heap.size 0 (cellsB z)) := Lib.hid (by
  have := H6.out.1.range 0 128
  rw [List.drop_zero, List.take_of_length_le (Nat.le_of_eq hlt)] at this
  exact this)
 go_wp2_with (first
  | (refine wpList_load_mid rfl 83 _ rfl w.heap.size 0 rfl (cellsB z) _ HR.out Tryz.underlying83 rfl (by rw [infoSector, cellsB_len, hlt]) ?_)
  | (refine wpList_store_mid rfl 83 _ _ rfl (w.heap.size + 1 + 1) 0 (cellsB z).toArray rfl rfl (H6.out.2.1.there (by simp [cellsB_len, nought_len, hlt])) (by rw [infoSector]; simp [cellsB_len, hlt]) (all_oneCell_toArray (cellsB_one _)) ?_))
 refine bodyPost_ret (results_cell_row rfl _ _ (w.heap.size + 1 + 1) 83 (cellsB z).toArray (0, 0) _ rfl ?_ Tryz.underlying83 rfl (by rw [infoSector]; simp [cellsB_len, hlt])) rfl ?_
 · have := H6.out.2.1.over (o := 0) (m := z) (by rw [nought_len, hlt]; omega)
   rw [patch_all (by rw [nought_len, hlt])] at this
   exact this
 · exact ⟨by rw [HZ.out], Fr.setCells (.inr (by omega)) H6.out.2.2⟩
end Go.Proofs.YtcnlgbjkjlbmbaaGreat

namespace Go.Proofs.YtcnlgbjkjlbmbaaGreat
open Go.RowKit

set_option maxRecDepth 100000 in
theorem slice_mid {w : World} {A : Option Addr} {n c : Nat} {l : List UInt8} (hr : Rd w A n l) (hA : A = none → c = 0) (k e : Nat) (hk : k ≤ e) (he : e ≤ n) (hc : n ≤ c) :
 ∃ A', (∀ W, (Instr.slice 46 (.slice A n c) (some (.int .i64 (k : Int))) (some (.int .i64 (e : Int))) (some (.int .i64 (e : Int)))).run Tryz.prog W = .ok (.slice A' (e - k) (e - k)) W) ∧ Rd w A' (e - k) ((l.drop k).take (e - k)) ∧ (A' = none → e - k = 0) ∧
  (∀ ad', A' = some ad' → ∃ ad, A = some ad ∧ ad'.block = ad.block) := by
 refine ⟨if e = k then A else A.map (·.add k), fun W => ?_, ?_, ?_, ?_⟩
 · have h := run_slice_lhm (P := Tryz.prog) (w := W) (t := 46) (a := A) (len := n) (cap := c) Tryz.underlying46 .i64 .i64 .i64 k e e (by omega) (by omega) (by omega) (by omega)
   have hz : (sizeOf (Tryz.prog.elem 46)).run Tryz.prog W = .ok 1 W := by go_simp
   rw [h, hz]
   simp [Result.andThen, sliced]
 · by_cases h0 : e = k
   · subst h0
     simp
     exact ⟨by simp, fun h => by omega⟩
   · have h1 := (hr.drop (k := k) (cap := c) (by omega) hc).take (k := e - k) (by omega)
     by_cases h2 : c = k
     · omega
     · rw [if_neg h2] at h1
       rw [if_neg h0]
       exact h1
 · intro h
   split at h
   · omega
   · have := hA (by cases A <;> simp_all)
     omega
 · intro ad' h
   split at h
   · exact ⟨ad', h, rfl⟩
   · cases A with
     | none => cases h
     | some ad => exact ⟨ad, rfl, by simp at h; rw [← h, add_block]⟩

def conOf (l : List UInt8) : Option (List UInt8) :=
 let k := numOf (l.take 4)
 if l = [] ∨ 32768 < k ∨ many k * 48 ≠ l.length then none
 else if (l.drop (4 + k)).all (· == 0) then some ((l.drop 4).take k) else none
def Con (w : World) (A : Option Addr) (o : Option (List UInt8)) (e : Ending) (w' : World) : Prop :=
 (o = none → e = .returned (.tuple #[.slice none 0 0, .bool false])) ∧
   (∀ b, o = some b → ∃ A', e = .returned (.tuple #[.slice A' b.length b.length, .bool true]) ∧ Rd w' A' b.length b ∧ ∀ ad', A' = some ad' → ∃ ad, A = some ad ∧ ad'.block = ad.block) ∧ Fr (fun _ => False) w w'

set_option maxRecDepth 100000 in
set_option maxHeartbeats 1000000 in
theorem content_any {w : World} {A : Option Addr} {n c : Nat} {l : List UInt8} (hr : Rd w A n l) (hA : A = none → c = 0) (hnc : n ≤ c) (h48 : l.length % 48 = 0) (hcm : n ≤ 140737488355328) (hlt : ∀ ad, A = some ad → ad.block < w.heap.size) :
 Calls Tryz.prog 123 #[.slice A n c] w (Con w A (conOf l)) := by
 obtain rfl := hr.len
 by_cases h0 : l.length = 0
 · have e0 : conOf l = none := by
    have : l = [] := List.eq_nil_of_length_eq_zero h0
    simp [conOf, this]
   rw [e0]
   go_enter Tryz.func123, Tryz.ntmps123
   go_wp2_with fail
   go_ret2
   exact ⟨fun _ => rfl, (fun b h => by cases h), Fr.refl _ _⟩
 have h1 : 48 ≤ l.length := by omega
 have HB : Hid (BoxR (w.alloc (.cells #[.slice A l.length c] 46)) w.heap.size A l.length c l) := Lib.hid
  ⟨Blk.new w _ _, hr.keep (F := fun _ => False) ((Fr.refl _ w).alloc _) (fun _ _ q => q), hnc, hA, fun ad e => by have := hlt ad e; omega⟩
 obtain ⟨k, hk⟩ : ∃ k, k = numOf (l.take 4) := ⟨_, rfl⟩
 have HC : Hid (conOf l = if l = [] ∨ 32768 < k ∨ many k * 48 ≠ l.length then none else if (l.drop (4 + k)).all (· == 0) then some ((l.drop 4).take k) else none) := Lib.hid (by rw [hk]; rfl)
 have hk4 : k < 4294967296 := by
  have h := numOf_lt (l.take 4)
  have h5 : (l.take 4).length = 4 := by rw [List.length_take]; omega
  rw [h5] at h
  rw [hk]
  exact h
 have HT := Lib.hid (take_is (N := k) (l' := l.drop 4) HB.out 4 (by omega) (by omega) ⟨hk.symm, rfl⟩)
 have HR := Lib.hid (And.intro hr (And.intro hA (And.intro hnc hlt)))
 clear hr hA hnc hlt hk HB
 go_enter Tryz.func123, Tryz.ntmps123
 go_wp2_with fail
 refine (taker_any _ _ _ _).mono ?_
 rintro e w1 ⟨rfl, rfl⟩
 go_wp2_with fail
 refine HT.out.mono ?_
 rintro e w1 ⟨rfl, _, hf1⟩
 have HF := Lib.hid (show Fr (fun _ => False) w w1 from ((Fr.refl _ w).alloc _).trans hf1 (fun i hi q => by omega))
 clear hf1 HT
 by_cases hk1 : 32768 < k
 · have e0 : conOf l = none := by rw [HC.out, if_pos (.inr (.inl hk1))]
   rw [e0]
   go_wp2_with fail
   go_ret2
   exact ⟨fun _ => rfl, (fun b h => by cases h), HF.out⟩
 have hm : many k ≤ 1000 := by unfold many; omega
 have HM := Lib.hid fun w => halvesFor_any w k (by omega)
 have HMM : Hid (many k = (51 + k) / 48) := Lib.hid rfl
 generalize many k = m at *
 go_wp2_with fail
 (with_reducible refine (HM.out _).mono ?_)
 rintro e w2 ⟨rfl, rfl⟩
 by_cases hm1 : m * 48 = l.length
 · have hk6 : 4 + k ≤ l.length := by have := HMM.out; omega
   obtain ⟨A', hsl, hrd, hbk⟩ := slice_from (P := Tryz.prog) (t := 46) Tryz.underlying46 (fun w => by go_simp) HR.out.1 HR.out.2.2.1 HR.out.2.1 (4 + k) hk6
   obtain ⟨A2, hs2, hr2, hA2, hb2⟩ := slice_mid HR.out.1 HR.out.2.1 4 (4 + k) (by omega) hk6 HR.out.2.2.1
   have e4 : 4 + k - 4 = k := by omega
   rw [e4] at hs2 hr2
   have hcast : ((4 + k : Nat) : Int) = 4 + (k : Int) := by omega
   rw [hcast] at hsl hs2
   have c4 : ((4 : Nat) : Int) = 4 := rfl
   rw [c4] at hs2
   clear c4
   have hr1 := hrd.keep HF.out (fun _ _ q => q)
   have hlen : (l.drop (4 + k)).length = l.length - (4 + k) := List.length_drop
   have HC2 : Hid (conOf l = if (l.drop (4 + k)).all (· == 0) then some ((l.drop 4).take k) else none) := Lib.hid (by
    rw [HC.out, if_neg]
    rintro (q | q | q)
    · rw [q] at h1; simp at h1
    · omega
    · omega)
   have hk2l : ((l.drop 4).take k).length = k := by rw [List.length_take, List.length_drop]; omega
   generalize l.drop (4 + k) = z at *
   generalize (l.drop 4).take k = bb at *
   have HX := Lib.hid (And.intro hr1 (And.intro hlen (And.intro (hr2.keep HF.out (fun _ _ q => q)) (And.intro hb2 (And.intro hm1 hk2l)))))
   clear hrd hr1 hr2 hb2 hA2 hbk hlen hk2l HC
   have hm2 : ((m : Int) * 48 != (l.length : Int)) = false := by simp; omega
   go_wp2_with fail
   go_loopw [32] (fun i wr => ∃ j : Nat, i = .int .i64 j ∧ j ≤ l.length - (4 + k) ∧ (z.take j).all (· == 0) = true ∧ wr = w1) (fun i _ => l.length - (4 + k) - (intOf i).toNat)
   case atStart => exact ⟨0, rfl, Nat.zero_le _, rfl, rfl⟩
   case round =>
    obtain ⟨j, rfl, hj, hall, rfl⟩ := hrel
    have HALL := Lib.hid hall
    clear hall
    by_cases hjlt : j < l.length - (4 + k)
    · obtain ⟨ad, x, hA1, hx, hcell⟩ := HX.out.1.at_ (k := j) hjlt
      subst hA1
      have hi0 : (0 : Int) ≤ (j : Int) := by omega
      have hi1 : (j : Int) < ((l.length - (4 + k) : Nat) : Int) := by omega
      by_cases hx0 : x.toNat = 0
      · go_wp2_with fail
        exact ⟨⟨j + 1, by go_num, hjlt, by rw [take_snoc' hx, List.all_append, HALL.out]; simp; exact UInt8.toNat_inj.1 hx0, trivial⟩, by simp [intOf]; omega⟩
      · have e0 : conOf l = none := by
         rw [HC2.out, if_neg]
         intro q
         have h3 := List.all_eq_true.1 q x (List.mem_of_getElem? hx)
         have h4 : x = 0 := by simpa using h3
         exact hx0 (by rw [h4]; rfl)
        have hx1 : ¬ ((x.toNat : Int) = 0) := by omega
        go_wp2_with fail
        go_ret2
        exact ⟨fun _ => rfl, (fun b h => by rw [e0] at h; cases h), HF.out⟩
    · obtain rfl : j = l.length - (4 + k) := by omega
      have e0 : conOf l = some bb := by
       rw [HC2.out, if_pos]
       have := HALL.out
       rw [← HX.out.2.1, List.take_length] at this
       exact this
      go_wp2_with fail
      go_ret2
      refine ⟨(fun h => by rw [e0] at h; cases h), fun b hb => ?_, HF.out⟩
      rw [e0] at hb
      injection hb with hb
      subst hb
      have hk9 := HX.out.2.2.2.2.2
      subst hk9
      exact ⟨A2, rfl, HX.out.2.2.1, HX.out.2.2.2.1⟩
 · have e0 : conOf l = none := by rw [HC.out, if_pos (.inr (.inr hm1))]
   have hm2 : ((m : Int) * 48 != (l.length : Int)) = true := by simp; omega
   go_wp2_with fail
   go_ret2
   exact ⟨fun _ => rfl, (fun b h => by rw [e0] at h; cases h), HF.out⟩
end Go.Proofs.YtcnlgbjkjlbmbaaGreat

namespace Go.Proofs.YtcnlgbjkjlbmbaaGreat
open Go.RowKit
attribute [local go_sem] Oper.semAt_some

set_option maxRecDepth 100000 in
theorem Fr.grow {w w' : World} (h : Fr (fun _ => False) w w') : w.grownBy w' none := ⟨h.os, h.tape, h.output, h.size, fun k hk _ => h.block k hk id⟩

abbrev Pl (N sz : Nat) := { x : Nat × List UInt8 // x.1 < N ∧ x.2.length = sz }
abbrev encPl {N sz : Nat} (x : Pl N sz) : Array Value := #[.int .i64 (x.1.1 : Nat), av x.1.2]

def upto {α : Type} (f : Nat → α) (k : Nat) : List α := (List.range k).map f
set_option maxRecDepth 100000 in
theorem upto_succ {α : Type} (f : Nat → α) (k : Nat) : upto f (k + 1) = upto f k ++ [f k] := by simp [upto, List.range_succ]
set_option maxRecDepth 100000 in
theorem upto_len {α : Type} (f : Nat → α) (k : Nat) : (upto f k).length = k := by simp [upto]

section
variable {ops : Array Oper} {rest : List Oper} {op : Oper} {a : Act} {w : World} {Q : Exit → Act → World → Prop} {F : Fence} {n : Nat} {P : Program}
set_option maxRecDepth 100000 in
theorem wpListIn_load_mid (hgd : op.guard = none) (ty : TypeId) (x : Operand) (ho : op.op = .load ty x)
 (b o : Nat) (hx : a.eval x = .pointer (some ⟨b, o, none⟩)) (cs : List Value) (d : TypeDesc) (hc : w.rangeAt b o cs)
 (hu : P.underlying ty = some d) (hd : d.isRow = true) (hi : (P.info? ty).map (·.size) = some cs.length)
 (h : wpListIn F n P ops Q rest (a.put op.dst (.agg cs.toArray)) w) : wpListIn F n P ops Q (op :: rest) a w := by
 refine wpListIn_plain hgd fun K hK => ?_
 have hl := run_loadVar_mid w b o ty cs d hc hu hd hi
 have hs : op.semAt F.round a.eval = execOp a.eval op := Oper.semAt_plain F _ _ (fun c h => by rw [ho] at h; cases h)
 unfold Oper.wpIn
 rw [hs]
 unfold execOp
 simp only [ho, hx, Instr.loadAt, Instr.sureAddr, Sem.run_bind, Sem.run_pure, Result.andThen_ok, hl, Oper.uponIn]
 refine ⟨fun f hf => ?_, hK _ _ h⟩
 simp [Oper.about, ho] at hf
end

def SecsAt (w : World) (b off : Nat) (ss : List (List UInt8)) : Prop := ∀ i s, ss[i]? = some s → s.length = 128 ∧ w.rangeAt b (off + i * 128) (cellsB s)

set_option maxRecDepth 100000 in
set_option maxHeartbeats 4000000 in
theorem halves1_in (F : Nat → Prop) (l Bs b off cap : Nat) (ss : List (List UInt8)) (hreach : ss.length ≤ 1099511627776) (hb : ¬ F b) (fh : Nat → Pl (2 * ss.length) 64)
 (hfh : ∀ k s, ss[k / 2]? = some s → (fh k).1.1 = k ∧ (fh k).1.2 = (s.drop (64 * (k % 2))).take 64) (J Jx : List (Pl (2 * ss.length) 64) → World → Prop)
 (hJ : ∀ s W W', J s W → W.grownBy W' none → J s W')
 (hY : ∀ pre x W, J pre W → pre.length < 2 * ss.length → YieldAt Fence.wide 8 Tryz.prog l (encPl x) W fun e W' =>
   (e = .returned (.bool true) ∧ J (pre ++ [x]) W' ∧ Fr F W W') ∨ (e = .returned (.bool false) ∧ Jx (pre ++ [x]) W'))
 (W : World) (hBn : ¬ F Bs) (hBs : W.cell? ⟨Bs, 0, none⟩ = some (.slice (some ⟨b, off, none⟩) ss.length cap)) (hc : SecsAt W b off ss) (h0 : J [] W) :
 CallsIn Fence.wide 9 Tryz.prog 151 #[.func (.yield l) #[] #[], .pointer (some ⟨Bs, 0, none⟩)] W fun e W' => (∃ v, e = .returned v) ∧
  ((∃ ys, ys = upto fh (2 * ss.length) ∧ J ys W') ∨ (∃ pre, (∃ k, k ≤ 2 * ss.length ∧ pre = upto fh k) ∧ Jx pre W')) := by
 refine callsIn_of_wp Tryz.func151 rfl trivial ?_ rfl
 simp only [Tryz.ntmps151, List.size_toArray, List.length_cons, List.length_nil, Nat.reduceAdd, Nat.reduceSub, Array.replicate_succ, Array.replicate_zero, List.push_toArray, List.append_toArray, List.nil_append, List.cons_append]
 have HC := Lib.hid hc
 clear hc
 gi_wp2
 gi_loopw [7] (fun i wr => ∃ k : Nat, k ≤ 2 * ss.length ∧ i = .int .i64 k ∧ J (upto fh k) wr ∧ Fr F W wr)
  (fun i _ => 2 * ss.length - (intOf i).toNat)
 case atStart => exact ⟨0, Nat.zero_le _, rfl, h0, Fr.refl _ _⟩
 case round =>
  obtain ⟨k, hk, rfl, hJs, hnx⟩ := hrel
  by_cases hlt : k < 2 * ss.length
  · obtain ⟨s, hs⟩ : ∃ s, ss[k / 2]? = some s := ⟨_, List.getElem?_eq_getElem (by omega)⟩
    obtain ⟨hs128, hrg⟩ := HC.out (k / 2) s hs
    obtain ⟨hx1, hx2⟩ := hfh k s hs
    have hil : k / 2 < ss.length := by omega
    have hr2 : k % 2 < 2 := by omega
    have hq : (k : Int) / 2 = ((k / 2 : Nat) : Int) := by omega
    have hrm : (k : Int) % 2 = ((k % 2 : Nat) : Int) := by omega
    have hB2 := (hnx.cell (p := ⟨Bs, 0, none⟩) (World.block_lt_of_cell? W _ hBs) hBn).trans hBs
    have hrg2 : wr.rangeAt b (off + k / 2 * 128) (cellsB s) := fun j v hv => (hnx.cell (p := ⟨b, off + k / 2 * 128 + j, none⟩) (World.block_lt_of_cell? W _ (hrg j v hv)) hb).trans (hrg j v hv)
    have HRG := Lib.hid hrg2
    have HCUT := Lib.hid (cut_any wr s hs128 (k % 2) hr2)
    have HS := Lib.hid (And.intro hs (And.intro hx1 hx2))
    clear hs hrg hrg2 hx1 hx2
    generalize k / 2 = i at *
    generalize k % 2 = r at *
    have hi0 : (0 : Int) ≤ (i : Int) := by omega
    have hi1 : (i : Int) < (ss.length : Int) := by omega
    gi_wp2_with (refine wpListIn_load_mid rfl 83 _ rfl b (off + i * 128) rfl (cellsB s) _ HRG.out Tryz.underlying83 rfl (by rw [infoSector, cellsB_len, hs128]) ?_)
    refine ⟨trivial, (callsIn_wide.2 HCUT.out).mono ?_⟩
    rintro e w2 ⟨rfl, hf⟩
    have hJ2 := hJ _ _ _ hJs hf.grow
    obtain ⟨fn, tmps, assign, body, hy, hR⟩ := hY (upto fh k) (fh k) w2 hJ2 (by rw [upto_len]; exact hlt)
    have hk2 : Fr F W w2 := hnx.trans hf (fun _ _ q => q.elim)
    dsimp only [encPl] at hy
    rw [HS.out.2.1, HS.out.2.2] at hy
    clear hq hrm hB2 hJ2
    gi_wp2
    refine hR.mono ?_
    rintro e W3 (⟨rfl, hJ3, hk3⟩ | ⟨rfl, hJx3⟩)
    · gi_wp2
      go_roundw
      case rel => exact ⟨k + 1, by omega, by simp, by rw [upto_succ]; exact hJ3, hk2.trans hk3 (fun _ _ q => q)⟩
      case measure => simp [intOf]; omega
    · gi_wp2
      refine bodyPost_ret (results_none rfl _ _ _) rfl ?_
      exact ⟨⟨_, rfl⟩, .inr ⟨_, ⟨k + 1, by omega, (upto_succ _ _).symm⟩, hJx3⟩⟩
  · obtain rfl : k = 2 * ss.length := by omega
    gi_wp2
    go_end0
    exact ⟨⟨_, rfl⟩, .inl ⟨_, rfl, hJs⟩⟩

set_option maxRecDepth 100000 in
set_option maxHeartbeats 4000000 in
theorem pieces1_in (F : Nat → Prop) (l Bs b N cap : Nat) (t : TypeId) (all : List UInt8) (hN : all.length = N * 48) (hreach : N ≤ 1099511627776) (hb : ¬ F b) (fp : Nat → Pl N 48)
 (hfp : ∀ k, k < N → (fp k).1.1 = k ∧ (fp k).1.2 = (all.drop (48 * k)).take 48) (J Jx : List (Pl N 48) → World → Prop)
 (hY : ∀ pre x W, J pre W → pre.length < N → YieldAt Fence.wide 8 Tryz.prog l (encPl x) W fun e W' =>
   (e = .returned (.bool true) ∧ J (pre ++ [x]) W' ∧ Fr F W W') ∨ (e = .returned (.bool false) ∧ Jx (pre ++ [x]) W'))
 (W : World) (hBn : ¬ F Bs) (hBs : W.cell? ⟨Bs, 0, none⟩ = some (.slice (some ⟨b, 0, none⟩) (N * 48) cap)) (hcap : N * 48 ≤ cap) (hblk : Blk W b t (cellsB all).toArray) (h0 : J [] W) :
 CallsIn Fence.wide 9 Tryz.prog 144 #[.func (.yield l) #[] #[], .pointer (some ⟨Bs, 0, none⟩)] W fun e W' => (∃ v, e = .returned v) ∧
  ((∃ ys, ys = upto fp N ∧ J ys W') ∨ (∃ pre, (∃ k, k ≤ N ∧ pre = upto fp k) ∧ Jx pre W')) := by
 refine callsIn_of_wp Tryz.func144 rfl trivial ?_ rfl
 simp only [Tryz.ntmps144, List.size_toArray, List.length_cons, List.length_nil, Nat.reduceAdd, Nat.reduceSub, Array.replicate_succ, Array.replicate_zero, List.push_toArray, List.append_toArray, List.nil_append, List.cons_append]
 have HC := Lib.hid hblk
 clear hblk
 have hdiv : (N : Int) * 48 / 48 = (N : Int) := by omega
 gi_wp2
 gi_loopw [9] (fun i wr => ∃ k : Nat, k ≤ N ∧ i = .int .i64 k ∧ J (upto fp k) wr ∧ Fr F W wr)
  (fun i _ => N - (intOf i).toNat)
 case atStart => exact ⟨0, Nat.zero_le _, rfl, h0, Fr.refl _ _⟩
 case round =>
  obtain ⟨k, hk, rfl, hJs, hnx⟩ := hrel
  by_cases hlt : k < N
  · obtain ⟨hx1, hx2⟩ := hfp k hlt
    have hB2 := (hnx.cell (p := ⟨Bs, 0, none⟩) (World.block_lt_of_cell? W _ hBs) hBn).trans hBs
    have hrg2 : wr.rangeAt b (48 * k) (cellsB ((all.drop (48 * k)).take 48)) := fun j v hv => (hnx.cell (p := ⟨b, 48 * k + j, none⟩) (World.block_lt_of_cell? W _ (HC.out.range (48 * k) 48 j v hv)) hb).trans (HC.out.range (48 * k) 48 j v hv)
    have hpl : ((all.drop (48 * k)).take 48).length = 48 := by rw [List.length_take, List.length_drop]; omega
    have HRG := Lib.hid hrg2
    have HS := Lib.hid (And.intro hx1 hx2)
    have hat := at_piece
    have hs2 : ∀ W, (Instr.slice 46 (.slice (some ⟨b, 0, none⟩) (N * 48) cap) (some (.int .i64 ((k : Int) * 48))) (some (.int .i64 (((k : Int) + 1) * 48))) (some (.int .i64 (((k : Int) + 1) * 48)))).run Tryz.prog W = .ok (.slice (some ⟨b, 48 * k, none⟩) 48 48) W := fun W => by
     have h := run_slice_lhm (P := Tryz.prog) (w := W) (t := 46) (a := some ⟨b, 0, none⟩) (len := N * 48) (cap := cap) Tryz.underlying46 .i64 .i64 .i64 ((k : Int) * 48) (((k : Int) + 1) * 48) (((k : Int) + 1) * 48) (by omega) (by omega) (by omega) (by omega)
     have hz : (sizeOf (Tryz.prog.elem 46)).run Tryz.prog W = .ok 1 W := by go_simp
     have e1 : ((k : Int) * 48).toNat = 48 * k := by omega
     have e2 : (((k : Int) + 1) * 48).toNat = 48 * k + 48 := by omega
     rw [h, hz]
     simp [Result.andThen, sliced, e1, e2, Addr.add_mid]
    clear hx1 hx2 hrg2
    generalize (all.drop (48 * k)).take 48 = p at *
    obtain ⟨fn, tmps, assign, body, hy, hR⟩ := hY (upto fp k) (fp k) wr hJs (by rw [upto_len]; exact hlt)
    dsimp only [encPl] at hy
    rw [HS.out.1, HS.out.2] at hy
    gi_wp2_with (refine wpListIn_load_mid rfl 175 _ rfl b (48 * k) rfl (cellsB p) _ HRG.out Tryz.underlying175 rfl (by rw [infoPiece, cellsB_len, hpl]) ?_)
    refine hR.mono ?_
    rintro e W3 (⟨rfl, hJ3, hk3⟩ | ⟨rfl, hJx3⟩)
    · gi_wp2
      go_roundw
      case rel => exact ⟨k + 1, by omega, by simp, by rw [upto_succ]; exact hJ3, hnx.trans hk3 (fun _ _ q => q)⟩
      case measure => simp [intOf]; omega
    · gi_wp2
      refine bodyPost_ret (results_none rfl _ _ _) rfl ?_
      exact ⟨⟨_, rfl⟩, .inr ⟨_, ⟨k + 1, by omega, (upto_succ _ _).symm⟩, hJx3⟩⟩
  · obtain rfl : k = N := by omega
    gi_wp2
    go_end0
    exact ⟨⟨_, rfl⟩, .inl ⟨_, rfl, hJs⟩⟩
end Go.Proofs.YtcnlgbjkjlbmbaaGreat

namespace Go.Proofs.YtcnlgbjkjlbmbaaGreat
open Go.RowKit

section
variable {P : Program} {ops : Array Oper} {Q : Exit → Act → World → Prop} {md : Region.Mode} {l n : Nat}

def isDefer (o : Oper) : Bool := match o.op with | .defer _ => true | _ => false

set_option maxRecDepth 100000 in
theorem opIn_of_wp {o : Oper} {a : Act} {w : World} {K K' : Act → World → Prop} (hd : isDefer o = false) (hlo : ¬ LetsOut Q) (hK : ∀ a w, K a w → K' a w) (h : o.wp P a w K Q) : o.wpIn (Fence.wide.inRound l) n P a w K' Q := by
 have hnd : ∀ c, o.op ≠ .defer c := fun c e => by simp [isDefer, e] at hd
 refine ⟨fun _ _ => trivial, ?_⟩
 have hs : o.semAt (Fence.wide.inRound l).round a.eval = execOp a.eval o := Oper.semAt_plain (Fence.wide.inRound l) _ _ hnd
 rw [hs]
 unfold Oper.wp at h
 generalize (execOp a.eval o).run P w = r at *
 cases r with
 | ok x w' =>
   cases x <;> simp only [Oper.upon] at h <;> simp only [Oper.uponIn]
   case value => exact hK _ _ h
   case skip => exact hK _ _ h
   case defer => exact hK _ _ h
   case enter f args =>
    refine ⟨(fun q => by cases q), CallsIn.inRound l (callsIn_wide.2 (Calls.mono h fun e w'' he => ?_))⟩
    cases e with
    | returned v => exact hK _ _ he
    | panicked c => exact he
    | outgrown => exact he
   case row row args =>
    exact ⟨(fun q => by cases q), fun c cs _ => let ⟨v, w'', r, s⟩ := h c cs; ⟨v, w'', hK _ _ r, stepsIn_wide.2 s⟩⟩
 | halt x w' =>
   cases x <;> simp only [Oper.upon] at h <;> simp only [Oper.uponIn] <;> exact h
set_option maxRecDepth 100000 in
theorem opIn_of_op {i : Nat} {a : Act} {w : World} {K K' : Act → World → Prop} (hd : ∀ o, ops[i]? = some o → isDefer o = false) (hlo : ¬ LetsOut Q) (hK : ∀ a w, K a w → K' a w) (h : wpOp P ops Q i K a w) : wpOpIn (Fence.wide.inRound l) n P ops Q i K' a w := by
 unfold wpOp at h
 unfold wpOpIn
 cases ho : ops[i]? with
 | none => simp only [ho] at h ⊢; exact hK _ _ h
 | some o =>
   simp only [ho] at h ⊢
   split
   · rename_i hw
     simp only [hw, if_true] at h
     rcases h with h | h
     · exact opIn_of_wp (hd o ho) hlo hK h
     · exact absurd h.2 hlo
   · rename_i hw
     simp only [hw] at h
     exact ⟨fun _ _ => trivial, hK _ _ h⟩
set_option maxRecDepth 100000 in
theorem anyIn_of_any (hd : ∀ (i : Nat) o, ops[i]? = some o → isDefer o = false) (hlo : ¬ LetsOut Q) : ∀ (fuel : Nat) (listed : Array Bool) (a : Act) (w : World), wpAny P md ops Q fuel listed a w → wpAnyIn (Fence.wide.inRound l) n P md ops Q fuel listed a w
 | 0, _, _, _, h => h
 | fuel + 1, listed, a, w, h => ⟨h.1, fun i hi => opIn_of_op (hd i) hlo (fun a' w' h' => anyIn_of_any hd hlo fuel _ a' w' h') (h.2 i hi)⟩
set_option maxRecDepth 100000 in
theorem wpOp_of_wp {i : Nat} {o : Oper} {K : Act → World → Prop} {a : Act} {w : World} (ho : ops[i]? = some o) (hw : Region.wanted o (yielded ops a.tmps) = true) (h : o.wp P a w K Q) : wpOp P ops Q i K a w := by
 unfold wpOp
 simp only [ho, hw, if_true]
 exact .inl h
set_option maxRecDepth 100000 in
theorem put_some {a : Act} {o : Oper} {d : Tmp} (h : o.dst = some d) (v : Value) : a.put o.dst v = { tmps := a.tmps.setIfInBounds d v, defers := a.defers } := by
 rw [h]; rfl
set_option maxRecDepth 100000 in
theorem put_none {a : Act} {o : Oper} (h : o.dst = none) (v : Value) : a.put o.dst v = a := by
 rw [h]; rfl
set_option maxRecDepth 100000 in
theorem anyH_take {S : World → Prop} (i : Nat) (d : Tmp) (v : Value) {oi : Oper} {fuel : Nat} {listed : Array Bool} {T : Array Value} {ds : List Deferred} {w : World} (hi : ops[i]? = some oi) (hd : oi.dst = some d)
 (hs : Region.noSelect ops = true) (hf : Region.free md ops listed i = true) (hr : (Region.ready md ops listed).contains i = true)
 (hQ : ∀ c a w, Q (.panic c) (a.put oi.dst v) w → Q (.panic c) a w) (hy : YieldsIf P ops S oi v { tmps := T, defers := ds }) (hS : S w)
 (h : wpAnyH P md ops Q S fuel (listed.setIfInBounds i true) { tmps := T.setIfInBounds d v, defers := ds } w) : wpAnyH P md ops Q S (fuel + 1) listed { tmps := T, defers := ds } w :=
 wpAnyH_take hi hs hf hr hQ hy hS (by rw [put_some hd]; exact h)
set_option maxRecDepth 100000 in
theorem anyH_tk {S : World → Prop} (i : Nat) (d : Tmp) (v : Value) {oi : Oper} {fuel : Nat} {listed : Array Bool} {T : Array Value} {ds : List Deferred} {w : World} (hi : ops[i]? = some oi) (hd : oi.dst = some d)
 (hy : YieldsIf P ops S oi v { tmps := T, defers := ds }) (hS : S w)
 (h : wpAnyH P md ops Q S fuel (listed.setIfInBounds i true) { tmps := T.setIfInBounds d v, defers := ds } w)
 (hs : Region.noSelect ops = true := by kernel_rfl) (hf : Region.free md ops listed i = true := by kernel_rfl) (hr : (Region.ready md ops listed).contains i = true := by kernel_rfl)
 (hQ : ∀ c a w, Q (.panic c) (a.put oi.dst v) w → Q (.panic c) a w := by exact fun _ _ _ h => h) : wpAnyH P md ops Q S (fuel + 1) listed { tmps := T, defers := ds } w := anyH_take i d v hi hd hs hf hr hQ hy hS h
theorem wpOp_call {i : Nat} {o : Oper} {K : Act → World → Prop} {T : Array Value} {ds : List Deferred} {w : World} {f : FuncId} {args : Array Value} (d : Tmp) (ho : ops[i]? = some o) (hd : o.dst = some d) (hw : Region.wanted o (yielded ops T) = true)
 (hr : (execOp (Act.eval { tmps := T, defers := ds }) o).run P w = .ok (.enter f args) w) (h : Calls P f args w fun e w' => ∃ v, e = .returned v ∧ K { tmps := T.setIfInBounds d v, defers := ds } w') : wpOp P ops Q i K { tmps := T, defers := ds } w := by
 refine wpOp_of_wp ho hw ?_
 unfold Oper.wp
 rw [hr]
 refine Calls.mono h fun e w' he => ?_
 obtain ⟨v, rfl, hk⟩ := he
 show K (Act.put _ o.dst v) w'
 rw [put_some hd]
 exact hk
set_option maxRecDepth 100000 in
theorem wpOp_value {i : Nat} {o : Oper} {K : Act → World → Prop} {T : Array Value} {ds : List Deferred} {w w' : World} (d : Tmp) (v : Value) (ho : ops[i]? = some o) (hd : o.dst = some d) (hw : Region.wanted o (yielded ops T) = true)
 (hr : (execOp (Act.eval { tmps := T, defers := ds }) o).run P w = .ok (.value v) w') (h : K { tmps := T.setIfInBounds d v, defers := ds } w') : wpOp P ops Q i K { tmps := T, defers := ds } w := by
 refine wpOp_of_wp ho hw ?_
 unfold Oper.wp
 rw [hr]
 show K (Act.put _ o.dst v) w'
 rw [put_some hd]
 exact h
set_option maxRecDepth 100000 in
theorem wpOp_skip {i : Nat} {o : Oper} {K : Act → World → Prop} {T : Array Value} {ds : List Deferred} {w w' : World} (ho : ops[i]? = some o) (hd : o.dst = none) (hw : Region.wanted o (yielded ops T) = true)
 (hr : (execOp (Act.eval { tmps := T, defers := ds }) o).run P w = .ok .skip w') (h : K { tmps := T, defers := ds } w') : wpOp P ops Q i K { tmps := T, defers := ds } w := by
 refine wpOp_of_wp ho hw ?_
 unfold Oper.wp
 rw [hr]
 show K (Act.put _ o.dst undef) w'
 rw [put_none hd]
 exact h
set_option maxRecDepth 100000 in
theorem run_store_mid {o : Oper} {a : Act} {w : World} (ty : TypeId) (x y : Operand) (ho : o.op = .store ty x y)
 (b f : Nat) (cells : Array Value) (hx : a.eval x = .pointer (some ⟨b, f, none⟩)) (hy : a.eval y = .agg cells)
 (ht : w.there b f cells.size) (hi : (P.info? ty).map (·.size) = some cells.size) (h1 : cells.all (·.oneCell') = true) : (execOp a.eval o).run P w = .ok .skip (w.setCells b f cells.toList) := by
 have hr := run_storeVar_mid (P := P) w b f ty cells ht hi h1
 unfold execOp
 simp only [ho, hx, hy, Instr.storeAt, Instr.sureAddr, Sem.run_bind, Sem.run_pure, Result.andThen_ok, hr]
set_option maxRecDepth 100000 in
theorem wpIn_round_held {S : World → Prop} {id : Nat} {a : Act} {w : World} (hm : P.follows .mixedOrders = true) (hlo : ¬ LetsOut Q) (hd : ops.all (fun o => !isDefer o) = true)
 (h : wpAnyH P .any ops Q S ops.size (Array.replicate ops.size false) a w.drew) : (Code.region id ops true).wpIn (Fence.wide.inRound l) n P Q a w :=
 wpIn_region_any hm (anyIn_of_any (fun i o ho => by
  have := Array.all_eq_true_iff_forall_mem.1 hd o (Array.mem_of_getElem? ho)
  simpa using this) hlo _ _ _ _ (wpAny_of_held _ _ _ _ h))
end
set_option maxRecDepth 100000 in
theorem run_zero_op {o : Oper} {a : Act} {w : World} (t : TypeId) (ho : o.op = .alloc t) {l : List UInt8} (h : ∀ w, (zeroValue t).run Tryz.prog w = .ok (av l) w) :
 (execOp a.eval o).run Tryz.prog w = .ok (.value (.pointer (some ⟨w.heap.size, 0, none⟩))) (w.alloc (.cells (cellsB l).toArray t)) := by
 have hr := alloc_of_zero h w
 unfold execOp
 simp only [ho, Sem.run_bind, hr, Result.andThen_ok, Sem.run_pure]
end Go.Proofs.YtcnlgbjkjlbmbaaGreat

namespace Go.Proofs.YtcnlgbjkjlbmbaaGreat
open Go.RowKit

set_option maxRecDepth 100000 in
theorem infoU8 : (Tryz.prog.info? 5).map (fun i => (i.zero, i.size, i.bytes)) = some (some (.int .u8 0), 1, 1) := by kernel_rfl
set_option maxRecDepth 100000 in
theorem infoSec : (Tryz.prog.info? 83).map (fun i => (i.zero, i.size, i.bytes)) = some (some (av (nought 128)), 128, 128) := by kernel_rfl
def padB (b : List UInt8) : List UInt8 := be b.length 4 ++ (b ++ nought (many b.length * 48 - 4 - b.length))
set_option maxRecDepth 100000 in
theorem padB_len (b : List UInt8) : (padB b).length = many b.length * 48 := by
 simp [padB, be_len, nought_len, many]; omega

set_option maxRecDepth 100000 in
theorem made_bytes (z : Array Value) (k N : Nat) (hz : z = (cellsB (nought k)).toArray) (hk : 0 < k) : madeCells z N = (cellsB (nought N)).toArray := by
 subst hz
 apply Array.ext
 · simp [madeCells, cellsB, nought]
 · intro i h1 h2
   have h3 : i % k < k := Nat.mod_lt _ hk
   simp [madeCells, cellsB, nought, h3]
set_option maxRecDepth 100000 in
theorem make_bytes (W : World) (N : Nat) (hN : N ≤ 1000000) : (Instr.makeSlice 46 (.int .i64 (N : Nat)) (.int .i64 (N : Nat))).run Tryz.prog W = .ok (.slice (some ⟨W.heap.size, 0, none⟩) N N) (W.alloc (.cells (cellsB (nought N)).toArray 5)) := by
 obtain ⟨i0, hi, hz0, hz1, hz2⟩ := info_parts infoU8
 have h := run_make (P := Tryz.prog) W 46 5 i0 (.int .u8 0) Tryz.underlying46 hi hz0 .i64 .i64 N N (by omega) (by omega) (by rw [hz2]; omega) (by omega)
 rw [h, hz1, made_bytes (Value.int .u8 0).cells 1 _ rfl (by omega)]
 simp
set_option maxRecDepth 100000 in
theorem make_sectors (W : World) (N : Nat) (hN : N ≤ 1000000) : (Instr.makeSlice 71 (.int .i64 (N : Nat)) (.int .i64 (N : Nat))).run Tryz.prog W = .ok (.slice (some ⟨W.heap.size, 0, none⟩) N N) (W.alloc (.cells (cellsB (nought (N * 128))).toArray 83)) := by
 obtain ⟨i0, hi, hz0, hz1, hz2⟩ := info_parts infoSec
 have h := run_make (P := Tryz.prog) W 71 83 i0 (av (nought 128)) Tryz.underlying71 hi hz0 .i64 .i64 N N (by omega) (by omega) (by rw [hz2]; omega) (by omega)
 rw [h, hz1, made_bytes (av (nought 128)).cells 128 _ rfl (by omega)]
 simp

set_option maxRecDepth 100000 in
theorem padB_eq {b : List UInt8} {m : Nat} (hm : m = many b.length) : patch (patch (nought (m * 48)) 0 (be b.length 4)) 4 b = padB b := by
 have hmm : b.length + 4 ≤ m * 48 := by rw [hm]; unfold many; omega
 have h0 : patch (nought (m * 48)) 0 (be b.length 4) = be b.length 4 ++ nought (m * 48 - 4) := by
  have := patch_app [] (nought (m * 48)) (be b.length 4)
  simpa [be_len, nought_drop] using this
 have h1 := patch_app (be b.length 4) (nought (m * 48 - 4)) b
 rw [be_len, nought_drop] at h1
 rw [h0, h1, hm]
 rfl
set_option maxRecDepth 100000 in
theorem pieces_any {w : World} {A : Option Addr} {n c : Nat} {b : List UInt8} (hr : Rd w A n b) (hn : n ≤ 32768) :
 Calls Tryz.prog 125 #[.slice A n c] w fun e w' => ∃ Bs R cap, e = .returned (.func (.func 144) #[] #[.pointer (some ⟨Bs, 0, none⟩)]) ∧
  Blk w' Bs 46 #[.slice (some ⟨R, 0, none⟩) (many n * 48) cap] ∧ many n * 48 ≤ cap ∧ Blk w' R 5 (cellsB (padB b)).toArray ∧ w.heap.size ≤ Bs ∧ w.heap.size ≤ R ∧ Fr (fun _ => False) w w' := by
 have hm : many n ≤ 1000 := by unfold many; omega
 have hmm : 1 ≤ many n ∧ n + 4 ≤ many n * 48 := by unfold many; omega
 have HM := Lib.hid (halvesFor_any w n (by omega))
 have HR := Lib.hid hr
 clear hr
 obtain ⟨m, hM⟩ : ∃ m, m = many n := ⟨_, rfl⟩
 rw [← hM] at HM hm hmm ⊢
 have HMM := Lib.hid hM
 clear hM
 go_enter Tryz.func125, Tryz.ntmps125
 go_wp2_with fail
 (with_reducible refine HM.out.mono ?_)
 rintro e w1 ⟨rfl, rfl⟩
 have hmk := make_bytes w (m * 48) (by omega)
 have hcm : ((m * 48 : Nat) : Int) = (m : Int) * 48 := by omega
 rw [hcm] at hmk
 have hk0 : Blk ((w.alloc (.cells (cellsB (nought (m * 48))).toArray 5)).alloc (.cells #[.slice (some ⟨w.heap.size, 0, none⟩) (m * 48) (m * 48)] 46)) w.heap.size 5 (cellsB (nought (m * 48))).toArray := (Blk.new w _ _).keep (F := fun _ => False) ((Fr.refl _ _).alloc _) (fun q => q)
 have hk1 := Blk.new (w.alloc (.cells (cellsB (nought (m * 48))).toArray 5)) 46 #[.slice (some ⟨w.heap.size, 0, none⟩) (m * 48) (m * 48)]
 have hf0 : Fr (fun _ => False) w ((w.alloc (.cells (cellsB (nought (m * 48))).toArray 5)).alloc (.cells #[.slice (some ⟨w.heap.size, 0, none⟩) (m * 48) (m * 48)] 46)) := ((Fr.refl _ w).alloc _).alloc _
 have H0 := Lib.hid (And.intro hk0 (And.intro hk1 hf0))
 clear hk0 hk1 hf0
 go_wp2_with fail
 refine (putter_is _ _ (m * 48) _ _ H0.out.1 (by rw [nought_len])).mono ?_
 rintro e w2 ⟨rfl, hb2, hf2⟩
 have hsz : (w.alloc (.cells (cellsB (nought (m * 48))).toArray 5)).heap.size = w.heap.size + 1 := by simp
 have hgs : w.heap.size + 2 ≤ ((w.alloc (.cells (cellsB (nought (m * 48))).toArray 5)).alloc (.cells #[.slice (some ⟨w.heap.size, 0, none⟩) (m * 48) (m * 48)] 46)).heap.size := by simp
 rw [hsz] at H0
 generalize ((w.alloc (.cells (cellsB (nought (m * 48))).toArray 5)).alloc (.cells #[.slice (some ⟨w.heap.size, 0, none⟩) (m * 48) (m * 48)] 46)).heap.size = G at *
 have H2 := Lib.hid (And.intro hb2 (And.intro (H0.out.2.1.keep hf2 (fun q => q)) (H0.out.2.2.trans hf2 (fun _ _ q => q))))
 clear hb2 hf2 hsz H0 hmk
 go_wp2_with fail
 refine (put_any H2.out.1 n 4 (by omega) (by omega) (by omega)).mono ?_
 rintro e w3 ⟨rfl, hb3, hf3⟩
 have j1 := H2.out.2.1.keep hf3 (by omega)
 have c0 := j1.cell 0
 simp at c0
 have H3 := Lib.hid (And.intro hb3 (And.intro j1 (H2.out.2.2.trans hf3 (fun i hi q => by omega))))
 clear hb3 hf3 j1
 have hrn := HR.out.len
 have hpl : (patch (nought (m * 48)) 0 (be n 4)).length = m * 48 := by rw [patch_len] <;> simp [be_len, nought_len]; omega
 have hcp : ∃ w4, (∀ ty, (Builtin.copy_ #[46, 46] ty #[.slice (some ⟨w.heap.size, 4, none⟩) (m * 48 - 4) (m * 48 - 4), .slice A n c]).run Tryz.prog w3 = .ok (goInt n) w4) ∧ Blk w4 w.heap.size 5 (cellsB (padB b)).toArray ∧ Fr (fun k => k = w.heap.size) w3 w4 := by
  have hpe := padB_eq (b := b) (m := m) (by rw [HMM.out, hrn])
  rw [hrn] at hpe
  rcases Nat.eq_zero_or_pos n with h0 | h0
  · subst h0
    have hb0 : b = [] := List.eq_nil_of_length_eq_zero hrn
    refine ⟨w3, fun ty => run_copy_none w3 46 46 ty 5 _ A _ _ 0 c Tryz.underlying46 (by kernel_rfl) (Nat.zero_min _), ?_, Fr.refl _ _⟩
    rw [← hpe, hb0]
    have : patch (patch (nought (m * 48)) 0 (be 0 4)) 4 [] = patch (nought (m * 48)) 0 (be 0 4) := by simp [patch]
    rw [this]
    exact H3.out.1.2.1
  · obtain ⟨ad, hA, hcell⟩ := (HR.out.keep H3.out.2.2 (fun _ _ q => q)).2 h0
    subst hA
    have hmin : Nat.min n (m * 48 - 4) = n := Nat.min_eq_left (by omega)
    refine ⟨_, fun ty => by
     have h := run_copy_cells (P := Tryz.prog) w3 46 46 ty 5 w.heap.size 4 (m * 48 - 4) (m * 48 - 4) ad n c (cellsB b) Tryz.underlying46 (by kernel_rfl) (by rw [cellsB_len, hmin, hrn])
      (fun j v hv => by
        rw [cellsB, List.getElem?_map] at hv
        obtain ⟨ch, hch, rfl⟩ := Option.map_eq_some_iff.1 hv
        exact hcell j ch hch)
      (fun j hj => ((H3.out.1.2.1.there (o := 4) (n := n) (by simp [cellsB_len, hpl]; omega)) j (by rw [cellsB_len, hrn] at hj; exact hj)).1) (fun j hj => ((H3.out.1.2.1.there (o := 4) (n := n) (by simp [cellsB_len, hpl]; omega)) j (by rw [cellsB_len, hrn] at hj; exact hj)).2) (cellsB_one _)
     rw [cellsB_len, hrn] at h
     exact h, ?_, Fr.setCells (F := fun k => k = w.heap.size) (.inl rfl) (Fr.refl _ _)⟩
    have := H3.out.1.2.1.over (o := 4) (m := b) (by rw [hpl, hrn]; omega)
    rw [hpe] at this
    exact this
 obtain ⟨w4, hc4, hb4, hf4⟩ := hcp
 have H4 := Lib.hid (And.intro hb4 (And.intro (H3.out.2.1.keep hf4 (by omega)) (H3.out.2.2.trans hf4 (fun i hi q => by omega))))
 clear hb4 hf4
 go_wp2_with fail
 go_ret
 have hme := HMM.out
 subst hme
 exact ⟨w.heap.size + 1, w.heap.size, _, rfl, H4.out.2.1, Nat.le_refl _, H4.out.1, by omega, by omega, H4.out.2.2⟩
end Go.Proofs.YtcnlgbjkjlbmbaaGreat

namespace Go.Proofs.YtcnlgbjkjlbmbaaGreat
open Go.RowKit

section
variable {ops : Array Oper} {rest : List Oper} {o : Oper} {a : Act} {w : World} {Q : Exit → Act → World → Prop} {F : Fence} {n : Nat}
set_option maxRecDepth 100000 in
theorem wpListIn_zero (hg : o.guard = none) (t : TypeId) (ho : o.op = .alloc t) {l : List UInt8} (h : ∀ w, (zeroValue t).run Tryz.prog w = .ok (av l) w)
 (hK : wpListIn F n Tryz.prog ops Q rest (a.put o.dst (.pointer (some ⟨w.heap.size, 0, none⟩))) (w.alloc (.cells (cellsB l).toArray t))) : wpListIn F n Tryz.prog ops Q (o :: rest) a w := by
 refine wpListIn_plain hg fun K hK' => ?_
 have hr := alloc_of_zero h w
 have hs : o.semAt F.round a.eval = execOp a.eval o := Oper.semAt_plain F _ _ (fun c h => by rw [ho] at h; cases h)
 unfold Oper.wpIn
 rw [hs]
 unfold execOp
 simp only [ho, Sem.run_bind, hr, Result.andThen_ok, Sem.run_pure, Oper.uponIn]
 exact ⟨fun f hf => by simp [Oper.about, ho] at hf, hK' _ _ hK⟩
set_option maxRecDepth 100000 in
theorem wpListIn_store_mid (hgd : o.guard = none) (ty : TypeId) (x y : Operand) (ho : o.op = .store ty x y)
 (b f : Nat) (cells : Array Value) (hx : a.eval x = .pointer (some ⟨b, f, none⟩)) (hy : a.eval y = .agg cells)
 (ht : w.there b f cells.size) (hi : (Tryz.prog.info? ty).map (·.size) = some cells.size) (h1 : cells.all (·.oneCell') = true)
 (h : wpListIn F n Tryz.prog ops Q rest (a.put o.dst undef) (w.setCells b f cells.toList)) : wpListIn F n Tryz.prog ops Q (o :: rest) a w := by
 refine wpListIn_plain hgd fun K hK' => ?_
 have hr := run_storeVar_mid (P := Tryz.prog) w b f ty cells ht hi h1
 have hs : o.semAt F.round a.eval = execOp a.eval o := Oper.semAt_plain F _ _ (fun c h => by rw [ho] at h; cases h)
 unfold Oper.wpIn
 rw [hs]
 unfold execOp
 simp only [ho, hx, hy, Instr.storeAt, Instr.sureAddr, Sem.run_bind, Sem.run_pure, Result.andThen_ok, hr, Oper.uponIn]
 exact ⟨fun f hf => by simp [Oper.about, ho] at hf, hK' _ _ h⟩
end

set_option maxRecDepth 100000 in
theorem blk_own {B g : Nat} {t : TypeId} {cs : Array Value} {W W' : World} {row : Option Nat} (h : Blk W g t cs) (hg : W.grownBy W' row) (hr : ∀ r, row = some r → B ≤ r ∧ ∃ o : Obj, W.heap[r]? = some o ∧ o.isCells = false) : Blk W' g t cs :=
 (hg.block g h.lt (fun e => by
   obtain ⟨_, o, ho, hc⟩ := hr g e.symm
   unfold Blk at h
   rw [h] at ho
   injection ho with ho
   subst ho
   cases hc)).trans h
set_option maxRecDepth 100000 in
theorem fr_own {B : Nat} {w0 W W' : World} {row : Option Nat} (h : Fr (fun _ => False) w0 W) (hB : w0.heap.size ≤ B) (hg : W.grownBy W' row) (hr : ∀ r, row = some r → B ≤ r ∧ ∃ o : Obj, W.heap[r]? = some o ∧ o.isCells = false) : Fr (fun _ => False) w0 W' :=
 h.grown hg (fun k e => .inr (Nat.le_trans hB (hr k e).1))
set_option maxRecDepth 100000 in
theorem KeepsOthers.setCells (b : Nat) : ∀ (vs : List Value) (f : Nat) (W : World), KeepsOthers W (W.setCells b f vs)
 | [], _, W => KeepsOthers.refl W
 | v :: vs, f, W => (KeepsOthers.setCell W ⟨b, f, none⟩ v).trans (KeepsOthers.setCells b vs (f + 1) _)
set_option maxRecDepth 100000 in
theorem Fr.others {W W' : World} (h : Fr (fun _ => False) W W') : KeepsOthers W W' := KeepsOthers.of_grownBy h.grow (fun j o e => by cases e)
set_option maxRecDepth 100000 in
theorem frB {F : Nat → Prop} {B : Nat} (hF : ∀ k, B ≤ k → F k) (W : World) (l : Nat) (o o' : Obj) (hl : B ≤ l) (h : W.heap[l]? = some o) : Fr F W (W.putObj l o') :=
 (Fr.refl F W).grown (grownBy_putObj' W l o') (fun k e => by injection e with e; subst e; exact .inl (hF _ hl))
end Go.Proofs.YtcnlgbjkjlbmbaaGreat


