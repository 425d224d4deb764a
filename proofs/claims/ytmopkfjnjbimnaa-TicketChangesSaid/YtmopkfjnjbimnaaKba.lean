/- Kba: laid together out of Base Law Wr Num Put Meth End Cut Rdr Tak Rnum Rest Dec Txt Drg. -/
import Derived.WalkKit
import Derived.Deep.Draws
import Derived.Maps.AppendAt
import Derived.Lib.Hide
import Derived.Laws.IdiomStrings
import Derived.Laws.BytesArg
import Derived.Test.YtmopkfjnjbimnaaRows
import Derived.ProofKit
import Derived.OpenShut
import Derived.BigQuiet
import Derived.Deep.QuietTactic
import Derived.WalkSpells
import Derived.Deep.RegionWith
import GoSem.Op.String
import Derived.WalkLawsBesides
import Derived.OrdersIn
import Derived.OrdersHeld
import Derived.Deep.RegionHeld3
import Derived.Deep.DeepCutAuto
namespace Go.Proofs.Ytmopkfjnjbimnaa
open Go.RowKit

/-- From w to w' only the blocks of the footprint F, and new ones, have turned. -/
structure Fr (F : Nat → Prop) (w w' : World) : Prop where
  os : w'.os = w.os
  tape : w'.tape = w.tape
  output : w'.output = w.output
  size : w.heap.size ≤ w'.heap.size
  block : ∀ k, k < w.heap.size → ¬ F k → w'.heap[k]? = w.heap[k]?

set_option maxRecDepth 100000 in
theorem Fr.refl (F : Nat → Prop) (w : World) : Fr F w w := ⟨rfl, rfl, rfl, Nat.le_refl _, fun _ _ _ => rfl⟩
set_option maxRecDepth 100000 in
theorem Fr.trans {F G : Nat → Prop} {a b c : World} (h : Fr F a b) (k : Fr G b c) (hs : ∀ i, i < a.heap.size → G i → F i) : Fr F a c :=
  ⟨k.os.trans h.os, k.tape.trans h.tape, k.output.trans h.output, Nat.le_trans h.size k.size,
    fun i hi hn => (k.block i (Nat.lt_of_lt_of_le hi h.size) (fun hg => hn (hs i hi hg))).trans (h.block i hi hn)⟩
set_option maxRecDepth 100000 in
theorem Fr.mono {F G : Nat → Prop} {a b : World} (h : Fr F a b) (hs : ∀ i, i < a.heap.size → F i → G i) : Fr G a b :=
  ⟨h.os, h.tape, h.output, h.size, fun i hi hn => h.block i hi (fun hf => hn (hs i hi hf))⟩
set_option maxRecDepth 100000 in
theorem Fr.drewN {F : Nat → Prop} {a b : World} (h : Fr F a b) (n : Nat) : Fr F a (b.drewN n) := ⟨h.os, h.tape, h.output, h.size, h.block⟩
set_option maxRecDepth 100000 in
theorem Fr.drew {F : Nat → Prop} {a b : World} (h : Fr F a b) : Fr F a b.drew := ⟨h.os, h.tape, h.output, h.size, h.block⟩
set_option maxRecDepth 100000 in
theorem Fr.alloc {F : Nat → Prop} {a b : World} (h : Fr F a b) (o : Obj) : Fr F a (b.alloc o) :=
  ⟨h.os, h.tape, h.output, Nat.le_trans h.size (by simp), fun i hi hn => (Below.heap_alloc b o i (Nat.lt_of_lt_of_le hi h.size)).trans (h.block i hi hn)⟩
set_option maxRecDepth 100000 in
theorem Fr.setCell {F : Nat → Prop} {a b : World} (h : Fr F a b) {p : Addr} (hp : F p.block ∨ a.heap.size ≤ p.block) (u : Value) : Fr F a (b.setCell p u) :=
  ⟨h.os, h.tape, h.output, by simpa [World.setCell] using h.size, fun i hi hn => (Below.heap_setCell b p u i (by
    rintro rfl
    rcases hp with hp | hp
    · exact hn hp
    · omega)).trans (h.block i hi hn)⟩
set_option maxRecDepth 100000 in
theorem Fr.grown {F : Nat → Prop} {a b c : World} {row : Option Nat} (h : Fr F a b) (hg : b.grownBy c row) (hr : ∀ k, row = some k → F k ∨ a.heap.size ≤ k) : Fr F a c :=
  ⟨hg.os.trans h.os, hg.tape.trans h.tape, hg.output.trans h.output, Nat.le_trans h.size hg.size,
    fun i hi hn => (hg.block i (Nat.lt_of_lt_of_le hi h.size) (fun e => by
      rcases hr i e.symm with hf | hf
      · exact hn hf
      · omega)).trans (h.block i hi hn)⟩
set_option maxRecDepth 100000 in
theorem Fr.below {F : Nat → Prop} {a b : World} (h : Fr F a b) {B : Nat} (hB : B ≤ a.heap.size) (hF : ∀ i, i < B → ¬ F i) : Below B a b :=
  ⟨h.os, h.tape, h.output, h.size, fun i hi => h.block i (by omega) (hF i hi)⟩
set_option maxRecDepth 100000 in
theorem Fr.of_below {F : Nat → Prop} {a b : World} (h : Below a.heap.size a b) : Fr F a b := ⟨h.os, h.tape, h.output, h.size, fun i hi _ => h.block i hi⟩
set_option maxRecDepth 100000 in
theorem Fr.cell {F : Nat → Prop} {a b : World} (h : Fr F a b) {p : Addr} (hp : p.block < a.heap.size) (hn : ¬ F p.block) : b.cell? p = a.cell? p :=
  World.cell?_of_block (h.block p.block hp hn)
set_option maxRecDepth 100000 in
theorem Fr.frozen {F : Nat → Prop} {a b : World} (h : Fr F a b) {p : Addr} (hp : p.block < a.heap.size) (hn : ¬ F p.block) : b.frozen? p = a.frozen? p :=
  World.frozen?_of_block (h.block p.block hp hn)

set_option maxRecDepth 100000 in
theorem add_block (a : Addr) (n : Nat) : (a.add n).block = a.block := by unfold Addr.add; split <;> rfl
set_option maxRecDepth 100000 in
theorem add_add (a : Addr) (i j : Nat) : (a.add i).add j = a.add (i + j) := by
  unfold Addr.add
  by_cases hi : i = 0 <;> by_cases hj : j = 0 <;> simp [hi, hj, Nat.add_assoc]

/-- Bytes as cells. -/
def cellsB (l : List UInt8) : List Value := l.map fun c => Value.int .u8 (c.toNat : Int)
set_option maxRecDepth 100000 in
theorem cellsB_len (l : List UInt8) : (cellsB l).length = l.length := by simp [cellsB]
set_option maxRecDepth 100000 in
theorem cellsB_app (l m : List UInt8) : cellsB (l ++ m) = cellsB l ++ cellsB m := by simp [cellsB]
set_option maxRecDepth 100000 in
theorem cellsB_one (l : List UInt8) : ∀ u ∈ cellsB l, u.oneCell' = true := by
  intro u hu
  simp only [cellsB, List.mem_map] at hu
  obtain ⟨c, _, rfl⟩ := hu
  rfl
set_option maxRecDepth 100000 in
theorem cellsB_get (l : List UInt8) (j : Nat) (u : Value) (h : (cellsB l)[j]? = some u) : ∃ c, l[j]? = some c ∧ u = .int .u8 (c.toNat : Int) := by
  simp only [cellsB, List.getElem?_map, Option.map_eq_some_iff] at h
  obtain ⟨c, hc, rfl⟩ := h
  exact ⟨c, hc, rfl⟩

/-- From the address A on stand the n bytes l. -/
def Rd (w : World) (A : Option Addr) (n : Nat) (l : List UInt8) : Prop :=
  l.length = n ∧ (0 < n → ∃ ad, A = some ad ∧ ∀ j c, l[j]? = some c → w.cell? (ad.add j) = some (.int .u8 (c.toNat : Int)))

set_option maxRecDepth 100000 in
theorem Rd.nil (w : World) (A : Option Addr) : Rd w A 0 [] := ⟨rfl, fun h => absurd h (by omega)⟩
set_option maxRecDepth 100000 in
theorem Rd.len {w : World} {A : Option Addr} {n : Nat} {l : List UInt8} (h : Rd w A n l) : l.length = n := h.1
set_option maxRecDepth 100000 in
theorem Rd.at_ {w : World} {A : Option Addr} {n : Nat} {l : List UInt8} (h : Rd w A n l) {k : Nat} (hk : k < n) :
    ∃ ad c, A = some ad ∧ l[k]? = some c ∧ w.cell? (ad.add k) = some (.int .u8 (c.toNat : Int)) := by
  obtain ⟨ad, e, hc⟩ := h.2 (by omega)
  have hl : k < l.length := by have := h.1; omega
  exact ⟨ad, l[k], e, List.getElem?_eq_getElem hl, hc k _ (List.getElem?_eq_getElem hl)⟩
set_option maxRecDepth 100000 in
theorem Rd.lt {w : World} {A : Option Addr} {n : Nat} {l : List UInt8} (h : Rd w A n l) (hn : 0 < n) : ∃ ad, A = some ad ∧ ad.block < w.heap.size := by
  obtain ⟨ad, c, e, _, hc⟩ := h.at_ hn
  refine ⟨ad, e, ?_⟩
  have := World.block_lt_of_cell? w _ hc
  rwa [add_block] at this
set_option maxRecDepth 100000 in
theorem Rd.keep {F : Nat → Prop} {w w' : World} {A : Option Addr} {n : Nat} {l : List UInt8} (h : Rd w A n l) (f : Fr F w w') (hF : ∀ ad, A = some ad → ¬ F ad.block) : Rd w' A n l :=
  ⟨h.1, fun hn => by
    obtain ⟨ad, e, hc⟩ := h.2 hn
    obtain ⟨ad', e', hlt⟩ := h.lt hn
    rw [e] at e'
    injection e' with e'
    subst e'
    refine ⟨ad, e, fun j c hj => ?_⟩
    rw [f.cell (by rw [add_block]; exact hlt) (by rw [add_block]; exact hF ad e)]
    exact hc j c hj⟩
set_option maxRecDepth 100000 in
theorem Rd.drewN {w : World} {A : Option Addr} {n : Nat} {l : List UInt8} (h : Rd w A n l) (k : Nat) : Rd (w.drewN k) A n l := h
set_option maxRecDepth 100000 in
theorem Rd.alloc {w : World} {A : Option Addr} {n : Nat} {l : List UInt8} (h : Rd w A n l) (o : Obj) : Rd (w.alloc o) A n l :=
  h.keep (F := fun _ => False) ((Fr.refl _ _).alloc o) (fun _ _ => id)
set_option maxRecDepth 100000 in
theorem Rd.drop {w : World} {A : Option Addr} {n : Nat} {l : List UInt8} (h : Rd w A n l) {k cap : Nat} (hk : k ≤ n) (hc : n ≤ cap) :
    Rd w (if cap = k then A else A.map (·.add k)) (n - k) (l.drop k) := by
  refine ⟨by rw [List.length_drop, h.1], fun hn => ?_⟩
  obtain ⟨ad, rfl, hcell⟩ := h.2 (by omega)
  rw [if_neg (by omega)]
  refine ⟨ad.add k, rfl, fun j c hj => ?_⟩
  rw [add_add]
  exact hcell _ c (by rw [← hj, List.getElem?_drop])
set_option maxRecDepth 100000 in
theorem Rd.take {w : World} {A : Option Addr} {n : Nat} {l : List UInt8} (h : Rd w A n l) {k : Nat} (hk : k ≤ n) : Rd w A k (l.take k) := by
  refine ⟨by rw [List.length_take, h.1]; omega, fun hn => ?_⟩
  obtain ⟨ad, rfl, hcell⟩ := h.2 (by omega)
  refine ⟨ad, rfl, fun j c hj => hcell j c ?_⟩
  rw [List.getElem?_take] at hj
  split at hj
  · exact hj
  · cases hj
set_option maxRecDepth 100000 in
theorem Rd.of_own {w : World} {base e : Nat} {A : Option Addr} {n c : Nat} {l : List UInt8} (h : w.ownsRow base e 1 (.slice A n c) n (cellsB l)) : Rd w A n l := by
  have hl : l.length = n := by have := h.1; rw [cellsB_len] at this; omega
  refine ⟨hl, fun hn => ?_⟩
  rcases h.2 with ⟨_, h0⟩ | ⟨g, cap, cur, hv, _⟩
  · omega
  have hA : A = some ⟨g, 0, none⟩ := by injection hv
  subst hA
  refine ⟨_, rfl, fun j c hj => h.cells (g := g) rfl j _ ?_⟩
  simp [cellsB, hj]
set_option maxRecDepth 100000 in
theorem own_slice {w : World} {base e size n : Nat} {v : Value} {xs : List Value} (h : w.ownsRow base e size v n xs) : ∃ A c, v = .slice A n c ∧ n ≤ c ∧ c ≤ maxLen := by
  rcases h.2 with ⟨rfl, rfl⟩ | ⟨g, cap, cur, rfl, _, _, hn, hc, _⟩
  · exact ⟨none, 0, rfl, Nat.le_refl _, Nat.zero_le _⟩
  · exact ⟨_, cap, rfl, hn, hc⟩
set_option maxRecDepth 100000 in
theorem own_form {w : World} {base e size n : Nat} {v : Value} {xs : List Value} (h : w.ownsRow base e size v n xs) : ∃ A m c, v = .slice A m c := by
  obtain ⟨A, c, e, _⟩ := own_slice h
  exact ⟨A, n, c, e⟩
set_option maxRecDepth 100000 in
theorem Rd.cellsB {w : World} {A : Option Addr} {n : Nat} {l : List UInt8} (h : Rd w A n l) (hn : 0 < n) :
    ∃ ad, A = some ad ∧ ∀ j u, (cellsB l)[j]? = some u → w.cell? (ad.add j) = some u := by
  obtain ⟨ad, e, hc⟩ := h.2 hn
  refine ⟨ad, e, fun j u hu => ?_⟩
  obtain ⟨c, hc', rfl⟩ := cellsB_get l j u hu
  exact hc j c hc'

section
variable {P : Program} (w : World)

set_option maxRecDepth 100000 in
/-- Bytes put behind a row of one's own: what comes of it lies in that row, or in the block that was just made. -/
theorem run_append_bytes (base : Nat) (t ty e : TypeId) (i : TypeInfo) (z : Value) (ht : P.underlying t = some (.slice e)) (hi : P.info? e = some i) (hz : i.zero = some z)
    (hsize : i.size = 1) (hby : i.bytes = 1) (hzs : z.cells.size = 1)
    (v : Value) (xs l : List UInt8) (hown : w.ownsRow base e 1 v xs.length (cellsB xs)) (A : Option Addr) (m c : Nat) (hr : Rd w A m l)
    (hb : xs.length + m ≤ 140737488355328) (hbase : base ≤ w.heap.size) :
    ∃ v' w', (Builtin.append_ #[t, t] ty #[v, .slice A m c]).run P w = .ok v' w' ∧ w'.ownsRow base e 1 v' (xs ++ l).length (cellsB (xs ++ l)) ∧ w.grownBy w' v.ownBlock ∧
      (v'.ownBlock = v.ownBlock ∨ v'.ownBlock = some w.heap.size) := by
  have hlen : (xs ++ l).length = xs.length + m := by rw [List.length_append, hr.1]
  rw [hlen, cellsB_app]
  by_cases hm : m = 0
  · subst hm
    have hl : l = [] := List.eq_nil_of_length_eq_zero hr.1
    subst hl
    refine ⟨v, w, ?_, by simpa [cellsB] using hown, World.grownBy.refl w _, .inl rfl⟩
    rcases hown.2 with ⟨rfl, h0⟩ | ⟨g, cap, cur, rfl, _, _, hnc, _⟩
    · cases A <;> simp [Builtin.append_, run_underlying ht, sizeOf, typeInfo, hi, Builtin.lenOf, Builtin.firstCells, loadCells, loadCellsFrom]
    · cases A <;> simp [Builtin.append_, run_underlying ht, sizeOf, typeInfo, hi, Builtin.lenOf, Builtin.firstCells, hnc, storeCells, loadCells, loadCellsFrom]
  · obtain ⟨ad, rfl, hc⟩ := hr.cellsB (by omega)
    obtain ⟨v', w', hrun, h2, h3, _, h5⟩ := run_append_own_at (P := P) w base t ty e i z 1 1 ht hi hz hsize hby hzs (by omega) v xs.length (cellsB xs) hown ad m c (cellsB l)
      (by rw [cellsB_len, hr.1]; omega) hc (cellsB_one l) (by simp only [maxLen]; omega) (by omega) hbase
    exact ⟨v', w', hrun, h2, h3, h5⟩

set_option maxRecDepth 100000 in
theorem wp_append_bytes {o : Oper} {a : Act} {K : Act → World → Prop} {Q : Exit → Act → World → Prop} (s x : Operand) (t : TypeId)
    (ho : o.op = .call { callee := .builtin .append, args := #[s, x], argTypes := #[t, t] })
    (base : Nat) (e : TypeId) (i : TypeInfo) (z : Value) (ht : P.underlying t = some (.slice e)) (hi : P.info? e = some i) (hz : i.zero = some z)
    (hsize : i.size = 1) (hby : i.bytes = 1) (hzs : z.cells.size = 1)
    (v : Value) (xs l : List UInt8) (hs : a.eval s = v) (hown : w.ownsRow base e 1 v xs.length (cellsB xs)) (A : Option Addr) (m c : Nat) (hx : a.eval x = .slice A m c) (hr : Rd w A m l)
    (hb : xs.length + m ≤ 140737488355328) (hbase : base ≤ w.heap.size)
    (h : ∀ v' w', w'.ownsRow base e 1 v' (xs ++ l).length (cellsB (xs ++ l)) → w.grownBy w' v.ownBlock → (v'.ownBlock = v.ownBlock ∨ v'.ownBlock = some w.heap.size) → K (a.put o.dst v') w') : o.wp P a w K Q := by
  obtain ⟨v', w', hrun, h2, h3, h4⟩ := run_append_bytes (P := P) w base t o.type e i z ht hi hz hsize hby hzs v xs l hown A m c hr hb hbase
  unfold Oper.wp execOp
  simp only [ho, resolve, invoke, builtin, Sem.run_bind, Sem.run_pure, Result.andThen_ok, List.map_toArray, List.map_cons, List.map_nil, hs, hx, hrun]
  exact h v' w' h2 h3 h4

set_option maxRecDepth 100000 in
theorem wpList_append_bytes {ops : Array Oper} {rest : List Oper} {o : Oper} {a : Act} {Q : Exit → Act → World → Prop} (hgd : o.guard = none) (s x : Operand) (t : TypeId)
    (ho : o.op = .call { callee := .builtin .append, args := #[s, x], argTypes := #[t, t] })
    (base : Nat) (e : TypeId) (i : TypeInfo) (z : Value) (ht : P.underlying t = some (.slice e)) (hi : P.info? e = some i) (hz : i.zero = some z)
    (hsize : i.size = 1) (hby : i.bytes = 1) (hzs : z.cells.size = 1)
    (v : Value) (xs l : List UInt8) (hs : a.eval s = v) (hown : w.ownsRow base e 1 v xs.length (cellsB xs)) (A : Option Addr) (m c : Nat) (hx : a.eval x = .slice A m c) (hr : Rd w A m l)
    (hb : xs.length + m ≤ 140737488355328) (hbase : base ≤ w.heap.size)
    (h : ∀ v' w', w'.ownsRow base e 1 v' (xs ++ l).length (cellsB (xs ++ l)) → w.grownBy w' v.ownBlock → (v'.ownBlock = v.ownBlock ∨ v'.ownBlock = some w.heap.size) → wpList P ops Q rest (a.put o.dst v') w') : wpList P ops Q (o :: rest) a w :=
  wpList_plain hgd fun _ hK => wp_append_bytes w s x t ho base e i z ht hi hz hsize hby hzs v xs l hs hown A m c hx hr hb hbase fun v' w' h2 h3 h4 => hK _ _ (h v' w' h2 h3 h4)
end

/-- A block that is known whole. -/
def Blk (w : World) (g : Nat) (t : TypeId) (cs : Array Value) : Prop := w.heap[g]? = some (.cells cs t (0, 0))
set_option maxRecDepth 100000 in
theorem Blk.lt {w : World} {g : Nat} {t : TypeId} {cs : Array Value} (h : Blk w g t cs) : g < w.heap.size := by
  rcases Nat.lt_or_ge g w.heap.size with hlt | hge
  · exact hlt
  · unfold Blk at h; rw [Array.getElem?_eq_none hge] at h; cases h
set_option maxRecDepth 100000 in
theorem Blk.cell {w : World} {g : Nat} {t : TypeId} {cs : Array Value} (h : Blk w g t cs) (i : Nat) : w.cell? ⟨g, i, none⟩ = cs[i]? := cell_of_row w g i cs t (0, 0) h
set_option maxRecDepth 100000 in
theorem Blk.frozen {w : World} {g : Nat} {t : TypeId} {cs : Array Value} (h : Blk w g t cs) (i : Nat) : w.frozen? ⟨g, i, none⟩ = false := by
  unfold Blk at h
  simp [World.frozen?, h]
set_option maxRecDepth 100000 in
theorem Blk.new (w : World) (t : TypeId) (cs : Array Value) : Blk (w.alloc (.cells cs t)) w.heap.size t cs := heap_alloc_new w _
set_option maxRecDepth 100000 in
theorem Blk.keep {F : Nat → Prop} {w w' : World} {g : Nat} {t : TypeId} {cs : Array Value} (h : Blk w g t cs) (f : Fr F w w') (hF : ¬ F g) : Blk w' g t cs := (f.block g h.lt hF).trans h
set_option maxRecDepth 100000 in
theorem Blk.set_ {w : World} {g : Nat} {t : TypeId} {cs : Array Value} (h : Blk w g t cs) (i : Nat) (u : Value) : Blk (w.setCell ⟨g, i, none⟩ u) g t (cs.setIfInBounds i u) := by
  unfold Blk at h ⊢
  simp [World.setCell, Array.getElem?_modify, h]
set_option maxRecDepth 100000 in
theorem Blk.ne_ {w : World} {g g' : Nat} {t t' : TypeId} {cs cs' : Array Value} (h : Blk w g t cs) (h' : Blk w g' t' cs') (hne : t ≠ t') : g ≠ g' := by
  rintro rfl
  unfold Blk at h h'
  rw [h] at h'
  injection h' with h'
  injection h' with _ ht
  exact hne ht
set_option maxRecDepth 100000 in
theorem own_ne {w : World} {base e size n : Nat} {v : Value} {xs : List Value} {g : Nat} {t : TypeId} {cs : Array Value} (h : w.ownsRow base e size v n xs) (hg : Blk w g t cs) (hne : e ≠ t) : v.ownBlock ≠ some g := by
  rcases h.2 with ⟨rfl, _⟩ | ⟨g', cap, cur, rfl, _, hh, _⟩
  · simp [Value.ownBlock]
  · intro he
    have : g' = g := by simpa [Value.ownBlock] using he
    subst this
    exact Blk.ne_ (t := e) hh hg hne rfl
set_option maxRecDepth 100000 in
theorem own_keep {F : Nat → Prop} {w w' : World} {base e size n : Nat} {v : Value} {xs : List Value} (h : w.ownsRow base e size v n xs) (f : Fr F w w') (hF : ∀ k, v.ownBlock = some k → ¬ F k) : w'.ownsRow base e size v n xs := by
  refine ⟨h.1, ?_⟩
  rcases h.2 with hn | ⟨g, cap, cur, rfl, hb, hgg, rest⟩
  · exact .inl hn
  · exact .inr ⟨g, cap, cur, rfl, hb, (f.block g (Array.getElem?_eq_some_iff.1 hgg).1 (hF g rfl)).trans hgg, rest⟩

set_option maxRecDepth 100000 in
/-- A text as new bytes. -/
theorem conv_bytes {P : Program} (w : World) (src dst e : TypeId) (s : ByteArray) (hs : P.underlying src = some .string) (hd : P.underlying dst = some (.slice e)) (he : P.underlying e = some (.int .u8)) :
    ∃ c w', (convert src dst (.string s)).run P w = .ok (.slice (some ⟨w.heap.size, 0, none⟩) s.size c) w' ∧ Rd w' (some ⟨w.heap.size, 0, none⟩) s.size s.data.toList ∧ Fr (fun _ => False) w w' ∧ w'.heap.size = w.heap.size + 1 := by
  refine ⟨_, _, run_bytes_of_string w src dst e s hs hd he, ?_, ((Fr.refl _ w).drew).alloc _, by simp⟩
  have hsz : s.data.toList.length = s.size := by rw [Array.length_toList]; rfl
  refine ⟨hsz, fun _ => ⟨_, rfl, fun j c hj => ?_⟩⟩
  have hjs : j < s.data.size := by
    have := (List.getElem?_eq_some_iff.1 hj).1
    simpa using this
  have hadd : (⟨w.heap.size, 0, none⟩ : Addr).add j = ⟨w.heap.size, j, none⟩ := by unfold Addr.add; split <;> simp_all
  have hc := World.cell?_alloc_mark w.drew (bytesRow s (grownCap w s.size 0 e)) e ((bytesRow s (grownCap w s.size 0 e)).size, (bytesRow s (grownCap w s.size 0 e)).size + 1) j
  rw [bytesRow_at s _ j hjs] at hc
  rw [hadd]
  refine hc.trans ?_
  have hj' : s.data.toList[j]? = some s.data[j] := by simp
  rw [hj'] at hj
  injection hj with hj
  rw [hj]

set_option maxRecDepth 100000 in
/-- Bytes as a text. -/
theorem conv_string {P : Program} {w : World} (src dst e : TypeId) {A : Option Addr} {n c : Nat} {l : List UInt8} (hr : Rd w A n l) (hs : P.underlying src = some (.slice e)) (he : P.underlying e = some (.int .u8)) (hd : P.underlying dst = some .string) :
    (convert src dst (.slice A n c)).run P w = .ok (.string ⟨l.toArray⟩) w := by
  obtain rfl := hr.len
  cases A with
  | none =>
    have hl : l = [] := by
      rcases Nat.eq_zero_or_pos l.length with h | h
      · exact List.eq_nil_of_length_eq_zero h
      · obtain ⟨_, e, _⟩ := hr.2 h
        cases e
    subst hl
    exact run_convert_bytes_nil w src e hs he _ c dst hd
  | some a =>
    refine run_convert_bytes_back w src dst e a c l hs he hd fun j hj => ?_
    obtain ⟨ad, e, hc⟩ := hr.2 (by omega)
    injection e with e
    subst e
    exact hc j _ (List.getElem?_eq_getElem hj)
end Go.Proofs.Ytmopkfjnjbimnaa

namespace Go.Proofs.Ytmopkfjnjbimnaa
open Go.ChangeShapes Go.WideShapes Go.ChangeAt Go.RowKit

set_option maxRecDepth 100000 in
theorem own : ownKnob Try.prog.godebug = none := by kernel_rfl
set_option maxRecDepth 100000 in
theorem laidOut : laidOutB Try.prog = true := by kernel_rfl

section
variable {H : Type} {enc : TypeId × Value → H} {P : Program}

set_option maxRecDepth 100000 in
/-- Arguments read behind the call as they did. -/
theorem args_stay {W W' : World} (hl : laidOutB P = true) (hb : Below W.heap.size W W') {sp : Nat → Bool} : ∀ {ts : List TypeId} {vs : List Value} {ds : List (DataW H)} {ps : List MemPlace},
    (∀ t ∈ ts, P.readableRec t = true ∧ t < P.types.size) → DataW.TrodAll enc P W 0 (fun _ => true) true ts vs ds ps → (∀ x ∈ ps, x.block < W.heap.size) → (∀ x ∈ ps, sp x.block = true) →
    DataW.TrodAll enc P W' 0 sp true ts vs ds ps
  | [], vs, ds, ps, _, h, _, _ => by
    obtain ⟨rfl, rfl, rfl⟩ := trodAll_nil h
    exact trodAll_mk0
  | t :: ts, vs, ds, ps, ht, h, hlt, hsp => by
    obtain ⟨v, vs', d, ds', p, q, rfl, rfl, rfl, h1, h2⟩ := trodAll_cons h
    have ht0 := ht t (by simp)
    exact trodAll_cons_mk (WideElems.Trod_stays hl ht0.1 ht0.2 h1 (fun x hx => hb.same (hlt x (by simp [hx]))) (fun x hx => hsp x (by simp [hx])))
      (args_stay hl hb (fun t' h' => ht t' (by simp [h'])) h2 (fun x hx => hlt x (by simp [hx])) (fun x hx => hsp x (by simp [hx])))

set_option maxRecDepth 100000 in
/-- A law's end. -/
theorem law_post {f : Func} {s : ChangeSpec} {tb : TypeId} {W W' : World} {args : Array Value} {ds gs : List (DataW H)} {before : List MemPlace}
    (hl : laidOutB P = true) (hvars : s.vars = []) (hpar0 : f.params.toList.all (fun t => P.readableRec t && decide (t < P.types.size)) = true) (hr : f.resultTypes = #[tb]) (hbool : P.underlying tb = some .bool)
    (hW : DataW.Whole enc P f.params.toList s.vars false W args.toList ds gs before) (hfn : s.fn H ds = { results := [.lit (.bool true)], args := ds }) (hb : Below W.heap.size W W') :
    s.post enc P f false true false false W args (.bool true) W' := by
  have hlt : ∀ x ∈ before, x.block < W.heap.size := fun x hx => hW.lt x hx
  have hpar : ∀ t ∈ f.params.toList, P.readableRec t = true ∧ t < P.types.size := fun t ht => by
    have := List.all_eq_true.1 hpar0 t ht
    simpa using this
  obtain ⟨p, q, hA, hV, hp, hfz, hnd⟩ := hW
  have hV' := hV
  rw [hvars] at hV'
  obtain ⟨rfl, rfl⟩ := trodVars_none hV'
  have hpp : before = p := by rw [hp, List.append_nil]
  subst hpp
  have hds : ds ++ [] = ds := List.append_nil ds
  refine ⟨ds, [], before, [], before, [], ⟨before, [], hA, hV, hp, hfz, hnd⟩, ?_, ?_, ?_, World.keptBut_mono (fun x hx => ⟨hx, .inr (.inl hx)⟩) (hb.frame (· ∈ before)), fun h => by cases h⟩
  · rw [hds, hfn, hr]
    exact trodAll_cons_mk (shut_bool hbool _) trodAll_mk0
  · rw [hds, hfn]
    exact args_stay hl hb hpar hA hlt (fun x hx => by simpa using hlt x hx)
  · rw [hds, hfn, hvars]
    exact rfl
end
end Go.Proofs.Ytmopkfjnjbimnaa

namespace Go.Proofs.Ytmopkfjnjbimnaa
open Go.RowKit

set_option maxRecDepth 100000 in
theorem infoU8 : (Try.prog.info? 5).map (fun i => (i.zero, i.size, i.bytes)) = some (some (.int .u8 0), 1, 1) := by kernel_rfl

/-- In block g stands a writer that has put l (f: it failed), in a row of its own, from block B on. -/
structure Wr (w : World) (B g : Nat) (v : Value) (l : List UInt8) (f : Bool) : Prop where
  blk : Blk w g 66 #[v, .bool f]
  own : w.ownsRow B 5 1 v l.length (cellsB l)
  base : B ≤ g
  gone : f = true → l = []

/-- A writer's blocks. -/
def WrF (g : Nat) (v : Value) (k : Nat) : Prop := k = g ∨ v.ownBlock = some k

set_option maxRecDepth 100000 in
theorem Wr.keep {F : Nat → Prop} {w w' : World} {B g : Nat} {v : Value} {l : List UInt8} {f : Bool} (h : Wr w B g v l f) (hf : Fr F w w') (hF : ∀ k, WrF g v k → ¬ F k) : Wr w' B g v l f :=
  ⟨h.blk.keep hf (hF g (.inl rfl)), own_keep h.own hf (fun k hk => hF k (.inr hk)), h.base, h.gone⟩

set_option maxRecDepth 100000 in
theorem fail_nil (w : World) : Calls Try.prog 98 #[.pointer none] w fun e w' => e = .returned (.pointer none) ∧ w = w' := by
  go_enter Try.func98, Try.ntmps98
  go_wp2
  go_ret
  exact ⟨rfl, rfl⟩

set_option maxRecDepth 100000 in
theorem fail_any {w : World} {B g : Nat} {v : Value} {l : List UInt8} {f : Bool} (h : Wr w B g v l f) :
    Calls Try.prog 98 #[.pointer (some ⟨g, 0, none⟩)] w fun e w' => e = .returned (.pointer (some ⟨g, 0, none⟩)) ∧ Wr w' B g (.slice none 0 0) [] true ∧ Fr (fun k => k = g) w w' := by
  have h0 := h.blk.cell 0
  have h1 := h.blk.cell 1
  have f0 := h.blk.frozen 0
  have f1 := h.blk.frozen 1
  simp at h0 h1
  go_enter Try.func98, Try.ntmps98
  go_wp2
  go_ret
  refine ⟨rfl, ⟨?_, World.ownsRow_nil _ _ _ _, h.base, fun _ => rfl⟩, ?_⟩
  · exact (h.blk.set_ 0 _).set_ 1 _
  · exact ((Fr.refl (fun k => k = g) w).setCell (p := ⟨g, 0, none⟩) (.inl rfl) _).setCell (p := ⟨g, 1, none⟩) (.inl rfl) _

set_option maxRecDepth 100000 in
theorem bytes_nil (w : World) (A : Option Addr) (n c : Nat) : Calls Try.prog 99 #[.pointer none, .slice A n c] w fun e w' => e = .returned (.pointer none) ∧ w = w' := by
  go_enter Try.func99, Try.ntmps99
  go_wp2
  go_ret
  exact ⟨rfl, rfl⟩

set_option maxRecDepth 100000 in
theorem bytes_failed {w : World} {B g : Nat} {v : Value} {l : List UInt8} (h : Wr w B g v l true) (A : Option Addr) (n c : Nat) :
    Calls Try.prog 99 #[.pointer (some ⟨g, 0, none⟩), .slice A n c] w fun e w' => e = .returned (.pointer (some ⟨g, 0, none⟩)) ∧ w = w' := by
  have h0 := h.blk.cell 0
  have h1 := h.blk.cell 1
  simp at h0 h1
  go_enter Try.func99, Try.ntmps99
  go_wp2
  go_ret
  exact ⟨rfl, rfl⟩

set_option maxRecDepth 100000 in
set_option maxHeartbeats 400000 in
theorem bytes_any {w : World} {B g : Nat} {v : Value} {xs : List UInt8} (h : Wr w B g v xs false) {A : Option Addr} {n c : Nat} {l : List UInt8} (hr : Rd w A n l) (hb : xs.length + n ≤ 140737488355328) :
    Calls Try.prog 99 #[.pointer (some ⟨g, 0, none⟩), .slice A n c] w fun e w' => e = .returned (.pointer (some ⟨g, 0, none⟩)) ∧
      ∃ v', Wr w' B g v' (xs ++ l) false ∧ Fr (WrF g v) w w' ∧ (v'.ownBlock = v.ownBlock ∨ v'.ownBlock = some w.heap.size) := by
  obtain ⟨i0, hi, hz0, hz1, hz2⟩ := info_parts infoU8
  have h0 := h.blk.cell 0
  have h1 := h.blk.cell 1
  simp at h0 h1
  have hlt := h.blk.lt
  have hbase := h.base
  go_enter Try.func99, Try.ntmps99
  go_wp2_with (at_builtin; refine wpList_append_bytes _ rfl _ _ 31 rfl B 5 i0 (.int .u8 0) Try.underlying31 hi hz0 hz1 hz2 rfl v xs l rfl h.own A n c rfl hr hb (by omega) ?_; intro v' w' hown hgrow hat; obtain ⟨A', n', c', rfl⟩ := own_form hown; have hF : Fr (WrF g v) w w' := (Fr.refl _ _).grown hgrow (fun k hk => .inl (.inr hk)); have hgo : v.ownBlock ≠ some g := own_ne h.own h.blk (by decide); have hb' : Blk w' g _ #[v, .bool false] := (hgrow.block g hlt (fun e => hgo e.symm)).trans h.blk; have h0' := hb'.cell 0; have f0' := hb'.frozen 0; simp at h0')
  go_ret
  refine ⟨rfl, .slice A' n' c', ⟨hb'.set_ 0 _, ?_, hbase, fun h => by cases h⟩, hF.setCell (p := ⟨g, 0, none⟩) (.inl (.inl rfl)) _, hat⟩
  have hlt' := hb'.lt
  exact own_keep hown ((Fr.refl (fun k => k = g) w').setCell (p := ⟨g, 0, none⟩) (.inl rfl) _) (fun k hk e => own_ne hown hb' (by decide) (by rw [hk, e]))
end Go.Proofs.Ytmopkfjnjbimnaa

namespace Go.Proofs.Ytmopkfjnjbimnaa
open Go.RowKit

/-- May a number's size be? -/
def maySz (s : Int) : Bool := s == 1 || s == 2 || s == 4 || s == 8

set_option maxRecDepth 100000 in
theorem maySize_yes (s : Int) (h : maySz s = true) (w : World) : Calls Try.prog 97 #[.int .i64 s] w fun e w' => e = .returned (.bool true) ∧ w = w' := by
  have hs : s = 1 ∨ s = 2 ∨ s = 4 ∨ s = 8 := by simpa [maySz, or_assoc] using h
  rcases hs with rfl | rfl | rfl | rfl
  all_goals
    go_enter Try.func97, Try.ntmps97
    go_wp2
    go_ret
    exact ⟨rfl, rfl⟩
set_option maxRecDepth 100000 in
theorem maySize_no (s : Int) (h : maySz s = false) (w : World) : Calls Try.prog 97 #[.int .i64 s] w fun e w' => e = .returned (.bool false) ∧ w = w' := by
  have h1 : (s == 1) = false := by cases h1 : s == 1 <;> simp_all [maySz]
  have h2 : (s == 2) = false := by cases h1 : s == 2 <;> simp_all [maySz]
  have h3 : (s == 4) = false := by cases h1 : s == 4 <;> simp_all [maySz]
  have h4 : (s == 8) = false := by cases h1 : s == 8 <;> simp_all [maySz]
  clear h
  go_enter Try.func97, Try.ntmps97
  go_wp2
  go_ret
  exact ⟨rfl, rfl⟩

/-- The i-th byte of the array that is filled, k of them filled. -/
def beB (n k i : Nat) : Int := if i < k then ((n / 256 ^ (7 - i) % 256 : Nat) : Int) else 0
def beArr (n k : Nat) : Array Value := #[.int .u8 (beB n k 0), .int .u8 (beB n k 1), .int .u8 (beB n k 2), .int .u8 (beB n k 3), .int .u8 (beB n k 4), .int .u8 (beB n k 5), .int .u8 (beB n k 6), .int .u8 (beB n k 7)]

/-- The bytes of a number of a size, its highest one first. -/
def be (n size : Nat) : List UInt8 := (List.range size).map fun i => UInt8.ofNat (n / 256 ^ (size - 1 - i) % 256)

/-- What fits a size. -/
def fitsB (n : Nat) (s : Nat) : Prop := (s = 1 ∧ n < 256) ∨ (s = 2 ∧ n < 65536) ∨ (s = 4 ∧ n < 4294967296) ∨ s = 8

set_option maxRecDepth 100000 in
theorem be_len (n size : Nat) : (be n size).length = size := by simp [be]
set_option maxRecDepth 100000 in
theorem rd_be {w : World} {n s : Nat} (hs : fitsB n s) : Rd (w.alloc (.cells (beArr n 8) 150)) (some ⟨w.heap.size, 8 - s, none⟩) s (be n s) := by
  refine ⟨be_len n s, fun _ => ⟨_, rfl, fun j c hj => ?_⟩⟩
  have hb := Blk.new w 150 (beArr n 8)
  have hjs : j < s := by
    have := (List.getElem?_eq_some_iff.1 hj).1
    rwa [be_len] at this
  have hadd : (⟨w.heap.size, 8 - s, none⟩ : Addr).add j = ⟨w.heap.size, 8 - s + j, none⟩ := by unfold Addr.add; split <;> simp_all
  rw [hadd, hb.cell]
  simp only [be, List.getElem?_map, List.getElem?_range hjs, Option.map_some, Option.some.injEq] at hj
  subst hj
  rcases hs with ⟨rfl, h⟩ | ⟨rfl, h⟩ | ⟨rfl, h⟩ | rfl
  · have : j = 0 := by omega
    subst this
    simp [beArr, beB, UInt8.toNat_ofNat']
  · have : j = 0 ∨ j = 1 := by omega
    rcases this with rfl | rfl <;> simp [beArr, beB, UInt8.toNat_ofNat']
  · have : j = 0 ∨ j = 1 ∨ j = 2 ∨ j = 3 := by omega
    rcases this with rfl | rfl | rfl | rfl <;> simp [beArr, beB, UInt8.toNat_ofNat']
  · have : j = 0 ∨ j = 1 ∨ j = 2 ∨ j = 3 ∨ j = 4 ∨ j = 5 ∨ j = 6 ∨ j = 7 := by omega
    rcases this with rfl | rfl | rfl | rfl | rfl | rfl | rfl | rfl <;> simp [beArr, beB, UInt8.toNat_ofNat']

set_option maxRecDepth 100000 in
set_option maxHeartbeats 2000000 in
theorem number_any {w : World} {B g : Nat} {v : Value} {xs : List UInt8} (h : Wr w B g v xs false) (n s : Nat) (hs : fitsB n s) (hn : n ≤ 18446744073709551615) (hb : xs.length + 8 ≤ 140737488355328) :
    Calls Try.prog 74 #[.pointer (some ⟨g, 0, none⟩), .int .u64 n, .int .i64 s] w fun e w' => e = .returned (.pointer (some ⟨g, 0, none⟩)) ∧
      ∃ v', Wr w' B g v' (xs ++ be n s) false ∧ Fr (WrF g v) w w' ∧ (v'.ownBlock = v.ownBlock ∨ ∀ k, v'.ownBlock = some k → w.heap.size ≤ k) := by
  have hrd := Lib.hid (rd_be (w := w) hs)
  have hw1 : Wr (w.alloc (.cells (beArr n 8) 150)) B g v xs false := h.keep (F := fun _ => False) ((Fr.refl _ _).alloc _) (fun _ _ => id)
  have hlt : ∀ k, WrF g v k → k < w.heap.size := by
    rintro k (rfl | hk)
    · exact h.blk.lt
    · exact (h.own.lt k hk).2
  unfold fitsB at hs
  rcases hs with ⟨rfl, hs⟩ | ⟨rfl, hs⟩ | ⟨rfl, hs⟩ | rfl
  all_goals
    go_enter Try.func74, Try.ntmps74
    go_wp2_with fail
    refine (maySize_yes _ rfl _).mono ?_
    rintro e w' ⟨rfl, rfl⟩
    go_wp2_with fail
    go_loopw [21] (fun i wr => ∃ k : Nat, k ≤ 8 ∧ i = .int .i64 k ∧ wr = w.alloc (.cells (beArr n k) 150)) (fun i _ => 8 - (intOf i).toNat)
    case atStart => exact ⟨0, by omega, rfl, rfl⟩
    case round =>
      obtain ⟨k, hk, rfl, rfl⟩ := hrel
      have hk' : k = 0 ∨ k = 1 ∨ k = 2 ∨ k = 3 ∨ k = 4 ∨ k = 5 ∨ k = 6 ∨ k = 7 ∨ k = 8 := by omega
      clear hk
      rcases hk' with rfl | rfl | rfl | rfl | rfl | rfl | rfl | rfl | rfl
      rotate_right
      · go_wp2_with fail
        refine (bytes_any hw1 hrd.out (by omega)).mono ?_
        rintro e w' ⟨rfl, v', h1, h2, h3⟩
        go_wp2_with fail
        go_ret
        refine ⟨rfl, v', h1, ((Fr.refl _ w).alloc _).trans h2 (fun _ _ => id), h3.imp id (fun e k hk => ?_)⟩
        rw [hk] at e
        injection e with e
        rw [e]
        simp
      all_goals
        unfold beArr
        go_wp2_with fail
        first
          | refine ⟨⟨1, by omega, rfl, congrArg (fun a => World.alloc w (.cells a 150)) ?_⟩, by simp [intOf]⟩
          | refine ⟨⟨2, by omega, rfl, congrArg (fun a => World.alloc w (.cells a 150)) ?_⟩, by simp [intOf]⟩
          | refine ⟨⟨3, by omega, rfl, congrArg (fun a => World.alloc w (.cells a 150)) ?_⟩, by simp [intOf]⟩
          | refine ⟨⟨4, by omega, rfl, congrArg (fun a => World.alloc w (.cells a 150)) ?_⟩, by simp [intOf]⟩
          | refine ⟨⟨5, by omega, rfl, congrArg (fun a => World.alloc w (.cells a 150)) ?_⟩, by simp [intOf]⟩
          | refine ⟨⟨6, by omega, rfl, congrArg (fun a => World.alloc w (.cells a 150)) ?_⟩, by simp [intOf]⟩
          | refine ⟨⟨7, by omega, rfl, congrArg (fun a => World.alloc w (.cells a 150)) ?_⟩, by simp [intOf]⟩
          | refine ⟨⟨8, by omega, rfl, congrArg (fun a => World.alloc w (.cells a 150)) ?_⟩, by simp [intOf]⟩
        simp [beB]
        try omega
end Go.Proofs.Ytmopkfjnjbimnaa

namespace Go.Proofs.Ytmopkfjnjbimnaa
open Go.RowKit

/-- A writer that has put what o says (none: it failed). -/
def WrS (w : World) (B g : Nat) (v : Value) (o : Option (List UInt8)) : Prop := Wr w B g v (o.getD []) o.isNone

set_option maxRecDepth 100000 in
theorem WrS.keep {F : Nat → Prop} {w w' : World} {B g : Nat} {v : Value} {o : Option (List UInt8)} (h : WrS w B g v o) (hf : Fr F w w') (hF : ∀ k, WrF g v k → ¬ F k) : WrS w' B g v o :=
  Wr.keep h hf hF

/-- What a writer's method gives: the writer itself, that has put o. -/
def Puts (w : World) (B g : Nat) (v : Value) (o : Option (List UInt8)) (e : Ending) (w' : World) : Prop :=
  e = .returned (.pointer (some ⟨g, 0, none⟩)) ∧ ∃ v', WrS w' B g v' o ∧ Fr (WrF g v) w w' ∧ (∀ k, v'.ownBlock = some k → v.ownBlock = some k ∨ w.heap.size ≤ k)

/-- Has a number room in a size? -/
def numOk (n : Nat) (s : Int) : Bool := decide ((s = 1 ∧ n < 256) ∨ (s = 2 ∧ n < 65536) ∨ (s = 4 ∧ n < 4294967296) ∨ s = 8)
def putNum (o : Option (List UInt8)) (n : Nat) (s : Int) : Option (List UInt8) := o.bind fun l => if numOk n s then some (l ++ be n s.toNat) else none

/-- There is room for so many bytes more. -/
def roomS (o : Option (List UInt8)) (n : Nat) : Prop := (o.getD []).length + n ≤ 140737488355328

set_option maxRecDepth 100000 in
theorem fail_puts {w : World} {B g : Nat} {v : Value} {o : Option (List UInt8)} (h : WrS w B g v o) :
    Calls Try.prog 98 #[.pointer (some ⟨g, 0, none⟩)] w (Puts w B g v none) :=
  (fail_any h).mono fun _ _ ⟨he, hw, hf⟩ => ⟨he, _, hw, hf.mono (fun _ _ e => .inl e), fun _ hk => by cases hk⟩

set_option maxRecDepth 100000 in
theorem bytes_puts {w : World} {B g : Nat} {v : Value} {o : Option (List UInt8)} (h : WrS w B g v o) {A : Option Addr} {n c : Nat} {l : List UInt8} (hr : Rd w A n l) (hb : roomS o n) :
    Calls Try.prog 99 #[.pointer (some ⟨g, 0, none⟩), .slice A n c] w (Puts w B g v (o.map (· ++ l))) := by
  cases o with
  | none => exact (bytes_failed h A n c).mono fun _ _ ⟨he, hw⟩ => ⟨he, v, hw ▸ h, hw ▸ Fr.refl _ _, fun _ hk => .inl hk⟩
  | some xs =>
    refine (bytes_any h hr hb).mono fun _ _ ⟨he, v', h1, h2, h3⟩ => ⟨he, v', h1, h2, fun k hk => ?_⟩
    rcases h3 with e | e
    · exact .inl (e ▸ hk)
    · rw [hk] at e
      injection e with e
      exact .inr (by omega)

set_option maxRecDepth 100000 in
theorem numOk_fits {n : Nat} {s : Int} (h : numOk n s = true) : ∃ k : Nat, s = k ∧ fitsB n k := by
  simp only [numOk, decide_eq_true_eq] at h
  rcases h with ⟨rfl, h⟩ | ⟨rfl, h⟩ | ⟨rfl, h⟩ | rfl
  · exact ⟨1, rfl, .inl ⟨rfl, h⟩⟩
  · exact ⟨2, rfl, .inr (.inl ⟨rfl, h⟩)⟩
  · exact ⟨4, rfl, .inr (.inr (.inl ⟨rfl, h⟩))⟩
  · exact ⟨8, rfl, .inr (.inr (.inr rfl))⟩

set_option maxRecDepth 100000 in
set_option maxHeartbeats 1000000 in
theorem number_bad {w : World} {B g : Nat} {v : Value} {o : Option (List UInt8)} (h : WrS w B g v o) (n : Nat) (s : Int) (hs : numOk n s = false) (hn : n ≤ 18446744073709551615) :
    Calls Try.prog 74 #[.pointer (some ⟨g, 0, none⟩), .int .u64 n, .int .i64 s] w (Puts w B g v none) := by
  have hs' : ¬ ((s = 1 ∧ n < 256) ∨ (s = 2 ∧ n < 65536) ∨ (s = 4 ∧ n < 4294967296) ∨ s = 8) := by simpa [numOk] using hs
  cases hm : maySz s with
  | false =>
    have hm' := Lib.hid hm
    clear hm hs hs'
    go_enter Try.func74, Try.ntmps74
    go_wp2_with fail
    refine (maySize_no s hm'.out _).mono ?_
    rintro e w' ⟨rfl, rfl⟩
    go_wp2_with fail
    refine (fail_puts h).mono ?_
    rintro e w' ⟨rfl, hp⟩
    go_wp2_with fail
    go_ret
    exact ⟨rfl, hp⟩
  | true =>
    have hm' : s = 1 ∨ s = 2 ∨ s = 4 ∨ s = 8 := by simpa [maySz, or_assoc] using hm
    clear hm
    have hq : (s = 1 ∧ 256 ≤ n) ∨ (s = 2 ∧ 65536 ≤ n) ∨ (s = 4 ∧ 4294967296 ≤ n) := by omega
    clear hm' hs hs'
    rcases hq with ⟨rfl, hq⟩ | ⟨rfl, hq⟩ | ⟨rfl, hq⟩
    all_goals
      go_enter Try.func74, Try.ntmps74
      go_wp2_with fail
      refine (maySize_yes _ rfl _).mono ?_
      rintro e w' ⟨rfl, rfl⟩
      go_wp2_with fail
      refine (fail_puts h).mono ?_
      rintro e w' ⟨rfl, hp⟩
      go_wp2_with fail
      go_ret
      exact ⟨rfl, hp⟩

set_option maxRecDepth 100000 in
set_option maxHeartbeats 2000000 in
/-- A failed writer, and a number that would go. -/
theorem number_failed {w : World} {B g : Nat} {v : Value} (h : WrS w B g v none) (n s : Nat) (hs : fitsB n s) (hn : n ≤ 18446744073709551615) :
    Calls Try.prog 74 #[.pointer (some ⟨g, 0, none⟩), .int .u64 n, .int .i64 s] w (Puts w B g v none) := by
  have hw1 : WrS (w.alloc (.cells (beArr n 8) 150)) B g v none := h.keep (F := fun _ => False) ((Fr.refl _ _).alloc _) (fun _ _ => id)
  unfold fitsB at hs
  rcases hs with ⟨rfl, hs⟩ | ⟨rfl, hs⟩ | ⟨rfl, hs⟩ | rfl
  all_goals
    go_enter Try.func74, Try.ntmps74
    go_wp2_with fail
    refine (maySize_yes _ rfl _).mono ?_
    rintro e w' ⟨rfl, rfl⟩
    go_wp2_with fail
    go_loopw [21] (fun i wr => ∃ k : Nat, k ≤ 8 ∧ i = .int .i64 k ∧ wr = w.alloc (.cells (beArr n k) 150)) (fun i _ => 8 - (intOf i).toNat)
    case atStart => exact ⟨0, by omega, rfl, rfl⟩
    case round =>
      obtain ⟨k, hk, rfl, rfl⟩ := hrel
      have hk' : k = 0 ∨ k = 1 ∨ k = 2 ∨ k = 3 ∨ k = 4 ∨ k = 5 ∨ k = 6 ∨ k = 7 ∨ k = 8 := by omega
      clear hk
      rcases hk' with rfl | rfl | rfl | rfl | rfl | rfl | rfl | rfl | rfl
      rotate_right
      · go_wp2_with fail
        refine (bytes_failed hw1 _ _ _).mono ?_
        rintro e w' ⟨rfl, rfl⟩
        go_wp2_with fail
        go_ret
        exact ⟨rfl, v, hw1, (Fr.refl _ w).alloc _, fun _ hk => .inl hk⟩
      all_goals
        unfold beArr
        go_wp2_with fail
        first
          | refine ⟨⟨1, by omega, rfl, congrArg (fun a => World.alloc w (.cells a 150)) ?_⟩, by simp [intOf]⟩
          | refine ⟨⟨2, by omega, rfl, congrArg (fun a => World.alloc w (.cells a 150)) ?_⟩, by simp [intOf]⟩
          | refine ⟨⟨3, by omega, rfl, congrArg (fun a => World.alloc w (.cells a 150)) ?_⟩, by simp [intOf]⟩
          | refine ⟨⟨4, by omega, rfl, congrArg (fun a => World.alloc w (.cells a 150)) ?_⟩, by simp [intOf]⟩
          | refine ⟨⟨5, by omega, rfl, congrArg (fun a => World.alloc w (.cells a 150)) ?_⟩, by simp [intOf]⟩
          | refine ⟨⟨6, by omega, rfl, congrArg (fun a => World.alloc w (.cells a 150)) ?_⟩, by simp [intOf]⟩
          | refine ⟨⟨7, by omega, rfl, congrArg (fun a => World.alloc w (.cells a 150)) ?_⟩, by simp [intOf]⟩
          | refine ⟨⟨8, by omega, rfl, congrArg (fun a => World.alloc w (.cells a 150)) ?_⟩, by simp [intOf]⟩
        simp [beB]
        try omega

set_option maxRecDepth 100000 in
theorem number_puts {w : World} {B g : Nat} {v : Value} {o : Option (List UInt8)} (h : WrS w B g v o) (n : Nat) (s : Int) (hn : n ≤ 18446744073709551615) (hb : roomS o 8) :
    Calls Try.prog 74 #[.pointer (some ⟨g, 0, none⟩), .int .u64 n, .int .i64 s] w (Puts w B g v (putNum o n s)) := by
  cases hs : numOk n s with
  | false =>
    have e : putNum o n s = none := by cases o <;> simp [putNum, hs]
    rw [e]
    exact number_bad h n s hs hn
  | true =>
    obtain ⟨k, rfl, hk⟩ := numOk_fits hs
    cases o with
    | none => exact number_failed h n k hk hn
    | some xs =>
      have e : putNum (some xs) n (k : Int) = some (xs ++ be n k) := by simp [putNum, hs]
      rw [e]
      exact (number_any h n k hk hn hb).mono fun _ _ ⟨he, v', h1, h2, h3⟩ => ⟨he, v', h1, h2, fun i hi => by
        rcases h3 with e | q
        · exact .inl (by rw [← e]; exact hi)
        · exact .inr (q i hi)⟩

set_option maxRecDepth 100000 in
/-- The same of a number that is written as a whole one. -/
theorem number_puts_int {w : World} {B g : Nat} {v : Value} {o : Option (List UInt8)} (h : WrS w B g v o) (n : Int) (s : Int) (h0 : 0 ≤ n) (hn : n ≤ 18446744073709551615) (hb : roomS o 8) :
    Calls Try.prog 74 #[.pointer (some ⟨g, 0, none⟩), .int .u64 n, .int .i64 s] w (Puts w B g v (putNum o n.toNat s)) := by
  obtain ⟨m, rfl⟩ := Int.eq_ofNat_of_zero_le h0
  exact number_puts h m s (by omega) hb
end Go.Proofs.Ytmopkfjnjbimnaa

namespace Go.Proofs.Ytmopkfjnjbimnaa
open Go.RowKit

set_option maxRecDepth 100000 in
theorem wrapU (n : Int) : IntKind.u64.wrap n = n % 18446744073709551616 := by simp [IntKind.wrap, IntKind.signed, IntKind.bits]
set_option maxRecDepth 100000 in
theorem wrapU_le (n : Int) : IntKind.u64.wrap n ≤ 18446744073709551615 := by rw [wrapU]; omega

set_option maxRecDepth 100000 in
theorem Rd.keep0 {F : Nat → Prop} {w w' : World} {A : Option Addr} {n : Nat} {l : List UInt8} (h : Rd w A n l) (f : Fr F w w') (hF : 0 < n → ∀ ad, A = some ad → ¬ F ad.block) : Rd w' A n l := by
  rcases Nat.eq_zero_or_pos n with h0 | h0
  · exact ⟨h.1, fun q => absurd q (by omega)⟩
  · exact h.keep f (hF h0)

/-- A blob: its length, its bytes. -/
def putBlob (o : Option (List UInt8)) (l : List UInt8) : Option (List UInt8) := o.map (· ++ (be l.length 4 ++ l))

set_option maxRecDepth 100000 in
theorem putNum_4 (o : Option (List UInt8)) (n : Nat) (hn : n ≤ 16777216) : putNum o n 4 = o.map (· ++ be n 4) := by
  have h : numOk n 4 = true := by simp [numOk]; omega
  cases o <;> simp [putNum, h]
set_option maxRecDepth 100000 in
theorem putNum_8 (o : Option (List UInt8)) (n : Nat) : putNum o n 8 = o.map (· ++ be n 8) := by
  have h : numOk n 8 = true := by simp [numOk]
  cases o <;> simp [putNum, h]
set_option maxRecDepth 100000 in
theorem putBlob_eq (o : Option (List UInt8)) (l : List UInt8) : (o.map (· ++ be l.length 4)).map (· ++ l) = putBlob o l := by cases o <;> simp [putBlob]

end Go.Proofs.Ytmopkfjnjbimnaa

namespace Go.Proofs.Ytmopkfjnjbimnaa
open Go.RowKit

/-- What makes a row of its own that holds l, and turns nothing. -/
def Makes (w : World) (l : List UInt8) (v : Value) (w' : World) : Prop := w'.ownsRow w.heap.size 5 1 v l.length (cellsB l) ∧ Fr (fun _ => False) w w'

set_option maxRecDepth 100000 in
theorem eqNil (w : World) (a : Option Addr) (n c n' c' : Nat) : (binOp .eql 31 (.slice a n c) (.slice none n' c')).run Try.prog w = .ok (.bool a.isNone) w := Lib.run_eql_slice_nil w _ _ a n c n' c' Try.underlying31

set_option maxRecDepth 100000 in
theorem clone_nil (w : World) (n : Nat) : Calls Try.prog 75 #[.slice none n 0] w fun e w' => e = .returned (.slice none 0 0) ∧ w = w' := by
  have q := eqNil
  go_enter Try.func75, Try.ntmps75
  go_wp2
  go_ret
  exact ⟨rfl, rfl⟩

set_option maxRecDepth 100000 in
set_option maxHeartbeats 400000 in
theorem clone_some {w : World} {a : Addr} {n c : Nat} {l : List UInt8} (hr : Rd w (some a) n l) (hn : n ≤ 140737488355328) :
    Calls Try.prog 75 #[.slice (some a) n c] w fun e w' => ∃ v, e = .returned v ∧ Makes w l v w' := by
  obtain ⟨i0, hi, hz0, hz1, hz2⟩ := info_parts infoU8
  have q := eqNil
  go_enter Try.func75, Try.ntmps75
  have ho : (w.alloc (.cells #[] 5)).ownsRow w.heap.size 5 1 (.slice (some ⟨w.heap.size, 0, none⟩) 0 0) ([] : List UInt8).length (cellsB []) :=
    World.ownsRow_made w #[] 0 (Nat.le_refl _) (Nat.zero_le _) rfl
  have hr' := hr.alloc (.cells #[] 5)
  go_wp2_with (at_builtin; refine wpList_append_bytes _ rfl _ _ 31 rfl w.heap.size 5 i0 (.int .u8 0) Try.underlying31 hi hz0 hz1 hz2 rfl (.slice (some ⟨w.heap.size, 0, none⟩) 0 0) [] l rfl ho (some a) n c rfl hr' (by simpa using hn) (by simp) ?_; intro v' w' hown hgrow hat)
  go_ret
  refine ⟨v', rfl, by simpa using hown, ((Fr.refl _ _).alloc _).grown hgrow (fun k hk => .inr ?_)⟩
  simp [Value.ownBlock] at hk
  omega

set_option maxRecDepth 100000 in
theorem clone_any {w : World} {A : Option Addr} {n c : Nat} {l : List UInt8} (hr : Rd w A n l) (hA : A = none → c = 0) (hn : n ≤ 140737488355328) :
    Calls Try.prog 75 #[.slice A n c] w fun e w' => ∃ v, e = .returned v ∧ Makes w l v w' := by
  cases A with
  | none =>
    obtain rfl := hA rfl
    have h0 : n = 0 := by
      rcases Nat.eq_zero_or_pos n with h | h
      · exact h
      · obtain ⟨_, e, _⟩ := hr.2 h
        cases e
    subst h0
    have hl : l = [] := List.eq_nil_of_length_eq_zero hr.1
    subst hl
    exact (clone_nil w 0).mono fun _ _ ⟨he, hw⟩ => ⟨_, he, World.ownsRow_nil _ _ _ _, hw ▸ Fr.refl _ _⟩
  | some a => exact clone_some hr hn

set_option maxRecDepth 100000 in
theorem own_rd {w : World} {base e : Nat} {v : Value} {l : List UInt8} (h : w.ownsRow base e 1 v l.length (cellsB l)) :
    ∃ A c, v = .slice A l.length c ∧ (A = none → c = 0) ∧ l.length ≤ c ∧ c ≤ maxLen ∧ Rd w A l.length l := by
  rcases h.2 with ⟨rfl, h0⟩ | ⟨g, cap, cur, rfl, _, _, hn, hc, _⟩
  · have hl : l = [] := List.eq_nil_of_length_eq_zero h0
    subst hl
    exact ⟨none, 0, rfl, fun _ => rfl, Nat.le_refl _, Nat.zero_le _, Rd.nil _ _⟩
  · exact ⟨_, cap, rfl, (fun e => by cases e), hn, hc, Rd.of_own h⟩

set_option maxRecDepth 100000 in
theorem end_nil (w : World) : Calls Try.prog 32 #[.pointer none] w fun e w' => e = .returned (.tuple #[.slice none 0 0, .int .i64 1]) ∧ w = w' := by
  go_enter Try.func32, Try.ntmps32
  go_wp2
  go_ret2
  exact ⟨rfl, rfl⟩

set_option maxRecDepth 100000 in
theorem end_failed {w : World} {B g : Nat} {v : Value} (h : WrS w B g v none) :
    Calls Try.prog 32 #[.pointer (some ⟨g, 0, none⟩)] w fun e w' => e = .returned (.tuple #[.slice none 0 0, .int .i64 2]) ∧ w = w' := by
  have h1 := h.blk.cell 1
  simp at h1
  go_enter Try.func32, Try.ntmps32
  go_wp2
  go_ret2
  exact ⟨rfl, rfl⟩

set_option maxRecDepth 100000 in
theorem end_any {w : World} {B g : Nat} {v : Value} {l : List UInt8} (h : WrS w B g v (some l)) (hl : l.length ≤ 140737488355328) :
    Calls Try.prog 32 #[.pointer (some ⟨g, 0, none⟩)] w fun e w' => ∃ x, e = .returned (.tuple #[x, .int .i64 0]) ∧ Makes w l x w' := by
  have h0 := h.blk.cell 0
  have h1 := h.blk.cell 1
  have ho := h.own
  have e : (some l).getD [] = l := rfl
  rw [e] at ho
  obtain ⟨A, c, rfl, hA, _, _, hr⟩ := own_rd ho
  simp at h0 h1
  have H := Lib.hid hr
  have HA := Lib.hid hA
  clear hr hA e
  go_enter Try.func32, Try.ntmps32
  go_wp2_with fail
  refine (clone_any H.out HA.out hl).mono ?_
  rintro e w' ⟨x, rfl, hm⟩
  go_wp2_with fail
  go_ret2
  exact ⟨x, rfl, hm⟩

set_option maxRecDepth 100000 in
theorem WrS.new (w : World) : WrS (w.alloc (.cells #[.slice none 0 0, .bool false] 66)) w.heap.size w.heap.size (.slice none 0 0) (some []) :=
  ⟨Blk.new _ _ _, World.ownsRow_nil _ _ _ _, Nat.le_refl _, fun h => by cases h⟩

set_option maxRecDepth 100000 in
theorem WrS.lt {w : World} {B g : Nat} {v : Value} {o : Option (List UInt8)} (h : WrS w B g v o) {k : Nat} (hk : WrF g v k) : k < w.heap.size := by
  rcases hk with rfl | hk
  · exact h.blk.lt
  · exact (h.own.lt k hk).2
set_option maxRecDepth 100000 in
theorem WrS.alloc {w : World} {B g : Nat} {v : Value} {o : Option (List UInt8)} (h : WrS w B g v o) (x : Obj) : WrS (w.alloc x) B g v o := h.keep (F := fun _ => False) ((Fr.refl _ _).alloc x) (fun _ _ => id)
set_option maxRecDepth 100000 in
/-- One byte in a new block. -/
theorem Rd.one (w : World) (t : TypeId) (c : UInt8) : Rd (w.alloc (.cells #[.int .u8 (c.toNat : Int)] t)) (some ⟨w.heap.size, 0, none⟩) 1 [c] := by
  refine ⟨rfl, fun _ => ⟨_, rfl, fun j d hj => ?_⟩⟩
  cases j with
  | zero =>
    have e : d = c := by simpa using hj.symm
    subst e
    exact (Blk.new w t _).cell 0
  | succ j => simp at hj

set_option maxRecDepth 100000 in
/-- All that a writer's methods turned, from its making on, is new. -/
theorem new_then {F : Nat → Prop} {w w' : World} {o : Obj} (h : Fr F (w.alloc o) w') (hF : ∀ k, F k → w.heap.size ≤ k) : Fr (fun _ => False) w w' :=
  ((Fr.refl _ w).alloc o).trans h (fun i hi hk => absurd (hF i hk) (by omega))
end Go.Proofs.Ytmopkfjnjbimnaa

namespace Go.Proofs.Ytmopkfjnjbimnaa
open Go.RowKit

set_option maxRecDepth 100000 in
/-- 's[k:]' of bytes. -/
theorem slice_from {P : Program} {t : TypeId} (ht : P.underlying t = some (.slice (P.elem t))) (hz : ∀ w, (sizeOf (P.elem t)).run P w = .ok 1 w)
    {w : World} {A : Option Addr} {n c : Nat} {l : List UInt8} (hr : Rd w A n l) (hnc : n ≤ c) (hA : A = none → c = 0) (k : Nat) (hk : k ≤ n) :
    ∃ A', (∀ W, (Instr.slice t (.slice A n c) (some (.int .i64 (k : Int))) none none).run P W = .ok (.slice A' (n - k) (c - k)) W) ∧ Rd w A' (n - k) (l.drop k) ∧ (A' = none → c - k = 0) ∧
      (∀ ad', A' = some ad' → ∃ ad, A = some ad ∧ ad'.block = ad.block) := by
  refine ⟨_, fun W => ?_, hr.drop hk hnc, ?_, ?_⟩
  · rw [run_slice_l W t A n c ht .i64 k (by omega) (by omega), hz]
    simp [Result.andThen, sliced]
  · split
    · intro _; omega
    · intro h
      have := hA (by cases A <;> simp_all)
      omega
  · intro ad' h
    split at h
    · exact ⟨ad', h, rfl⟩
    · cases A with
      | none => cases h
      | some ad => exact ⟨ad, rfl, by simp at h; rw [← h, add_block]⟩

set_option maxRecDepth 100000 in
/-- 's[:k]' of bytes. -/
theorem slice_to {P : Program} {t : TypeId} (ht : P.underlying t = some (.slice (P.elem t))) (hz : ∀ w, (sizeOf (P.elem t)).run P w = .ok 1 w)
    {w : World} {A : Option Addr} {n c : Nat} {l : List UInt8} (hr : Rd w A n l) (hnc : n ≤ c) (k : Nat) (hk : k ≤ n) :
    (∀ W, (Instr.slice t (.slice A n c) none (some (.int .i64 (k : Int))) none).run P W = .ok (.slice A k c) W) ∧ Rd w A k (l.take k) := by
  refine ⟨fun W => ?_, hr.take hk⟩
  rw [run_slice_h W t A n c ht .i64 k (by omega) (by omega), hz]
  have h0 : A.map (fun x => x.add 0) = A := by cases A <;> simp [Addr.add]
  simp [Result.andThen, sliced, h0]
end Go.Proofs.Ytmopkfjnjbimnaa

namespace Go.Proofs.Ytmopkfjnjbimnaa
open Go.RowKit

/-- In block g stands a reader that has l left (f: it failed; m: it was made). -/
def Rr (w : World) (g : Nat) (l : List UInt8) (f m : Bool) : Prop :=
  ∃ A n c, Blk w g 135 #[.slice A n c, .bool f, .bool m] ∧ Rd w A n l ∧ n ≤ c ∧ n ≤ 70368744177664 ∧ (A = none → c = 0) ∧ (∀ ad, A = some ad → ad.block ≠ g ∧ ad.block < w.heap.size)

set_option maxRecDepth 100000 in
theorem Rr.keep {F : Nat → Prop} {w w' : World} {g : Nat} {l : List UInt8} {f m : Bool} (h : Rr w g l f m) (hf : Fr F w w') (hF : ∀ k, F k → w.heap.size ≤ k) : Rr w' g l f m := by
  obtain ⟨A, n, c, hb, hr, hnc, hc, hA, hne⟩ := h
  refine ⟨A, n, c, hb.keep hf (fun h => by have := hF g h; have := hb.lt; omega), hr.keep hf (fun ad e h => ?_), hnc, hc, hA, fun ad e => ⟨(hne ad e).1, Nat.lt_of_lt_of_le (hne ad e).2 hf.size⟩⟩
  have := hF _ h
  have := (hne ad e).2
  omega
set_option maxRecDepth 100000 in
theorem Rr.lt {w : World} {g : Nat} {l : List UInt8} {f m : Bool} (h : Rr w g l f m) : g < w.heap.size := by
  obtain ⟨A, n, c, hb, _⟩ := h
  exact hb.lt

set_option maxRecDepth 100000 in
theorem rfail_nil (w : World) : Calls Try.prog 106 #[.pointer none] w fun e w' => e = .returned (.tuple #[]) ∧ w = w' := by
  go_enter Try.func106, Try.ntmps106
  go_wp2
  go_end0
  exact ⟨rfl, rfl⟩

set_option maxRecDepth 100000 in
theorem rfail_any {w : World} {g : Nat} {l : List UInt8} {f m : Bool} (h : Rr w g l f m) :
    Calls Try.prog 106 #[.pointer (some ⟨g, 0, none⟩)] w fun e w' => e = .returned (.tuple #[]) ∧ Rr w' g [] true m ∧ Fr (fun k => k = g) w w' := by
  obtain ⟨A, n, c, hb, hr, hnc, hc, hA, hne⟩ := h
  have h0 := hb.cell 0
  have h1 := hb.cell 1
  have f0 := hb.frozen 0
  have f1 := hb.frozen 1
  simp at h0 h1
  clear hnc
  go_enter Try.func106, Try.ntmps106
  go_wp2
  go_end0
  refine ⟨rfl, ⟨none, 0, 0, (hb.set_ 0 _).set_ 1 _, Rd.nil _ _, Nat.le_refl _, by omega, fun _ => rfl, fun _ e => by cases e⟩, ?_⟩
  exact ((Fr.refl (fun k => k = g) w).setCell (p := ⟨g, 0, none⟩) (.inl rfl) _).setCell (p := ⟨g, 1, none⟩) (.inl rfl) _

set_option maxRecDepth 100000 in
theorem has_nil (w : World) (n : Int) : Calls Try.prog 105 #[.pointer none, .int .i64 n] w fun e w' => e = .returned (.bool false) ∧ w = w' := by
  go_enter Try.func105, Try.ntmps105
  go_wp2
  go_ret
  exact ⟨rfl, rfl⟩

set_option maxRecDepth 100000 in
theorem has_yes {w : World} {g : Nat} {l : List UInt8} {f m : Bool} (h : Rr w g l f m) (n : Int) (hn : n ≤ l.length) :
    Calls Try.prog 105 #[.pointer (some ⟨g, 0, none⟩), .int .i64 n] w fun e w' => e = .returned (.bool true) ∧ w = w' := by
  obtain ⟨A, k, c, hb, hr, hnc, hc, hA, hne⟩ := h
  have h0 := hb.cell 0
  simp at h0
  have hl := hr.len
  have hd : decide (n ≤ (k : Int)) = true := by rw [decide_eq_true_eq, ← hl]; exact hn
  clear hnc hl hn
  go_enter Try.func105, Try.ntmps105
  go_wp2
  go_ret
  exact ⟨rfl, rfl⟩

set_option maxRecDepth 100000 in
theorem has_no {w : World} {g : Nat} {l : List UInt8} {f m : Bool} (h : Rr w g l f m) (n : Int) (hn : (l.length : Int) < n) :
    Calls Try.prog 105 #[.pointer (some ⟨g, 0, none⟩), .int .i64 n] w fun e w' => e = .returned (.bool false) ∧ w = w' := by
  obtain ⟨A, k, c, hb, hr, hnc, hc, hA, hne⟩ := h
  have h0 := hb.cell 0
  simp at h0
  have hl := hr.len
  have hd : decide (n ≤ (k : Int)) = false := by rw [decide_eq_false_iff_not, ← hl]; omega
  clear hnc hl hn
  go_enter Try.func105, Try.ntmps105
  go_wp2
  go_ret
  exact ⟨rfl, rfl⟩

set_option maxRecDepth 100000 in
theorem rend_nil (w : World) : Calls Try.prog 48 #[.pointer none] w fun e w' => e = .returned (.int .i64 1) ∧ w = w' := by
  go_enter Try.func48, Try.ntmps48
  go_wp2
  go_ret
  exact ⟨rfl, rfl⟩
set_option maxRecDepth 100000 in
theorem rend_zero {w : World} {g : Nat} {l : List UInt8} {f : Bool} (h : Rr w g l f false) : Calls Try.prog 48 #[.pointer (some ⟨g, 0, none⟩)] w fun e w' => e = .returned (.int .i64 1) ∧ w = w' := by
  obtain ⟨A, k, c, hb, hr, hnc, hc, hA, hne⟩ := h
  have h0 := hb.cell 0
  have h1 := hb.cell 1
  have h2 := hb.cell 2
  simp at h0 h1 h2
  clear hnc
  go_enter Try.func48, Try.ntmps48
  go_wp2
  go_ret
  exact ⟨rfl, rfl⟩
/-- What End answers. -/
def rendOf (l : List UInt8) (f : Bool) : Int := if f || !l.isEmpty then 4 else 0
set_option maxRecDepth 100000 in
theorem rend_any {w : World} {g : Nat} {l : List UInt8} {f : Bool} (h : Rr w g l f true) : Calls Try.prog 48 #[.pointer (some ⟨g, 0, none⟩)] w fun e w' => e = .returned (.int .i64 (rendOf l f)) ∧ w = w' := by
  obtain ⟨A, k, c, hb, hr, hnc, hc, hA, hne⟩ := h
  obtain rfl := hr.len
  have h0 := hb.cell 0
  have h1 := hb.cell 1
  have h2 := hb.cell 2
  simp at h0 h1 h2
  clear hnc hr hne hA hc
  cases f with
  | true =>
    go_enter Try.func48, Try.ntmps48
    go_wp2
    go_ret
    exact ⟨rfl, rfl⟩
  | false =>
    cases l with
    | nil =>
      simp only [List.length_nil] at h0
      go_enter Try.func48, Try.ntmps48
      go_wp2
      go_ret
      exact ⟨rfl, rfl⟩
    | cons x r =>
      obtain ⟨j, hj⟩ : ∃ j, (x :: r).length = j + 1 := ⟨r.length, rfl⟩
      rw [hj] at h0
      clear hj
      have hd : decide (0 < (j : Int) + 1) = true := by rw [decide_eq_true_eq]; omega
      have hd' : decide (0 < ((j + 1 : Nat) : Int)) = true := by rw [decide_eq_true_eq]; omega
      go_enter Try.func48, Try.ntmps48
      go_wp2
      go_ret
      exact ⟨rfl, rfl⟩

set_option maxRecDepth 100000 in
theorem read_any {w : World} {A : Option Addr} {n c : Nat} {l : List UInt8} (hr : Rd w A n l) (hA : A = none → c = 0) (hn : n ≤ 70368744177664) :
    Calls Try.prog 46 #[.slice A n c] w fun e w' => ∃ g, e = .returned (.pointer (some ⟨g, 0, none⟩)) ∧ Rr w' g l false true ∧ Fr (fun _ => False) w w' ∧ w.heap.size ≤ g := by
  have H := Lib.hid hr
  have HA := Lib.hid hA
  clear hr hA
  go_enter Try.func46, Try.ntmps46
  go_wp2_with fail
  refine (clone_any H.out HA.out (by omega)).mono ?_
  rintro e w1 ⟨x, rfl, hm⟩
  obtain ⟨B, c', rfl, hB, hc, hcm, hr⟩ := own_rd hm.1
  have hl := H.out.len
  have hf := hm.2
  have hs := hf.size
  have ho := Lib.hid hm.1
  have Hr := Lib.hid hr
  have HB := Lib.hid hB
  clear hm hr hB
  go_wp2
  go_ret
  refine ⟨_, rfl, ⟨B, n, c', Blk.new _ _ _, by have := Hr.out.alloc (.cells #[Value.slice B n c', Value.bool false, Value.bool true] 135); rwa [hl] at this, by omega, by omega, HB.out, fun ad e => ?_⟩, hf.alloc _, hs⟩
  subst e
  have := (ho.out.lt ad.block rfl).2
  exact ⟨by omega, by simp; omega⟩

set_option maxRecDepth 100000 in
theorem szU8 (w : World) : (sizeOf (Try.prog.elem 31)).run Try.prog w = .ok 1 w := by kernel_rfl
set_option maxRecDepth 100000 in
theorem undU8 : Try.prog.underlying 31 = some (.slice (Try.prog.elem 31)) := by kernel_rfl

/-- What a method of a reader leaves: the reader has l left, and only its own block has turned. -/
def Left (w : World) (g : Nat) (l : List UInt8) (f m : Bool) (w' : World) : Prop := Rr w' g l f m ∧ Fr (fun k => k = g) w w'

set_option maxRecDepth 100000 in
theorem one_any {w : World} {g : Nat} {x : UInt8} {l : List UInt8} {f m : Bool} (h : Rr w g (x :: l) f m) :
    Calls Try.prog 107 #[.pointer (some ⟨g, 0, none⟩)] w fun e w' => e = .returned (.int .u64 (x.toNat : Int)) ∧ Left w g l f m w' := by
  obtain ⟨A, n, c, hb, hr, hnc, hn, hA, hne⟩ := h
  have h0 := hb.cell 0
  have f0 := hb.frozen 0
  simp at h0
  have hl := hr.len
  have h1n : 1 ≤ n := by rw [← hl]; simp
  obtain ⟨A', hs, hr', hA', hB⟩ := slice_from (P := Try.prog) undU8 szU8 hr hnc hA 1 h1n
  obtain ⟨ad, e0, hcell⟩ := hr.2 (by omega)
  subst e0
  have hc0 := hcell 0 x rfl
  rw [show ad.add 0 = ad from rfl] at hc0
  have hne0 := (hne ad rfl)
  have H := Lib.hid (And.intro hb (And.intro hr' (And.intro hA' hB)))
  obtain ⟨j, rfl⟩ : ∃ j, n = j + 1 := ⟨n - 1, by omega⟩
  have hs1 : ∀ W, (Instr.slice 31 (.slice (some ad) (j + 1) c) (some (.int .i64 1)) none none).run Try.prog W = .ok (.slice A' j (c - 1)) W := hs
  clear hs
  clear hr hr' hA' hB hA hne hcell hl h1n hb
  go_enter Try.func107, Try.ntmps107
  have hx := x.toNat_lt
  go_wp2
  go_ret
  obtain ⟨hb, hr', hA', hB⟩ := H.out
  have hf : Fr (fun k => k = g) w (w.setCell ⟨g, 0, none⟩ (.slice A' j (c - 1))) := (Fr.refl (fun k => k = g) w).setCell (p := ⟨g, 0, none⟩) (.inl rfl) _
  have hg : ∀ ad', A' = some ad' → ad'.block ≠ g ∧ ad'.block < w.heap.size := by
    intro ad' e'
    obtain ⟨ad2, e2, e3⟩ := hB ad' e'
    injection e2 with e2
    subst e2
    rw [e3]
    exact hne0
  refine ⟨rfl, ⟨A', j, c - 1, hb.set_ 0 _, hr'.keep hf (fun ad' e' => (hg ad' e').1), by omega, by omega, hA', fun ad' e' => ⟨(hg ad' e').1, Nat.lt_of_lt_of_le (hg ad' e').2 hf.size⟩⟩, hf⟩
end Go.Proofs.Ytmopkfjnjbimnaa

namespace Go.Proofs.Ytmopkfjnjbimnaa
open Go.RowKit

/-- The number that bytes are, the highest first. -/
def numOf (l : List UInt8) : Nat := l.foldl (fun n c => n * 256 + c.toNat) 0
set_option maxRecDepth 100000 in
theorem numOf_from (l : List UInt8) : ∀ n, l.foldl (fun n c => n * 256 + c.toNat) n = n * 256 ^ l.length + numOf l := by
  induction l with
  | nil => intro n; simp [numOf]
  | cons c l ih =>
    intro n
    simp only [List.foldl_cons, List.length_cons, numOf]
    rw [ih, ih, Nat.zero_mul, Nat.zero_add, Nat.pow_succ', Nat.add_mul, Nat.mul_assoc, Nat.add_assoc]
set_option maxRecDepth 100000 in
theorem numOf_app (p q : List UInt8) : numOf (p ++ q) = numOf p * 256 ^ q.length + numOf q := by
  unfold numOf
  rw [List.foldl_append, numOf_from]
  rfl
set_option maxRecDepth 100000 in
theorem numOf_lt (l : List UInt8) : numOf l < 256 ^ l.length := by
  induction l with
  | nil => simp [numOf]
  | cons c l ih =>
    have e : c :: l = [c] ++ l := rfl
    rw [e, numOf_app]
    have hc := c.toNat_lt
    have h1 : numOf [c] = c.toNat := by simp [numOf]
    have h2 : ([c] ++ l).length = l.length + 1 := by simp
    rw [h1, h2, Nat.pow_succ']
    calc c.toNat * 256 ^ l.length + numOf l < c.toNat * 256 ^ l.length + 256 ^ l.length := by omega
      _ = (c.toNat + 1) * 256 ^ l.length := by rw [Nat.add_mul, Nat.one_mul]
      _ ≤ 256 * 256 ^ l.length := Nat.mul_le_mul_right _ (by omega)

set_option maxRecDepth 100000 in
theorem Left.then_ {w w1 w2 : World} {g : Nat} {l l' : List UInt8} {f m f' m' : Bool} (h : Left w g l f m w1) (k : Left w1 g l' f' m' w2) : Left w g l' f' m' w2 := ⟨k.1, h.2.trans k.2 (fun _ _ => id)⟩

set_option maxRecDepth 100000 in
theorem or_shift (a b k : Nat) (hb : b < 2 ^ k) (h : a * 2 ^ k + b < 18446744073709551616) : bits .or .u64 ((a : Int) * ((2 ^ k : Nat) : Int)) (b : Int) = ((a * 2 ^ k + b : Nat) : Int) := by
  have e : (a : Int) * ((2 ^ k : Nat) : Int) = ((a * 2 ^ k : Nat) : Int) := by rw [Int.natCast_mul]
  rw [e, u64_or_nat _ _ (by omega) (by omega)]
  congr 1
  rw [Nat.mul_comm, ← Nat.two_pow_add_eq_or_of_lt hb]

set_option maxRecDepth 100000 in
theorem two_any {w : World} {g : Nat} {x y : UInt8} {l : List UInt8} {f m : Bool} (h : Rr w g (x :: y :: l) f m) :
    Calls Try.prog 108 #[.pointer (some ⟨g, 0, none⟩)] w fun e w' => e = .returned (.int .u64 (numOf [x, y] : Nat)) ∧ Left w g l f m w' := by
  have hx := x.toNat_lt
  have hy := y.toNat_lt
  go_enter Try.func108, Try.ntmps108
  go_wp2_with fail
  refine (one_any h).mono ?_
  rintro e w1 ⟨rfl, h1⟩
  go_wp2_with fail
  refine (one_any h1.1).mono ?_
  rintro e w2 ⟨rfl, h2⟩
  go_wp2_with fail
  go_ret
  refine ⟨?_, h1.then_ h2⟩
  have e := or_shift x.toNat y.toNat 8 hy (by omega)
  have e2 : numOf [x, y] = x.toNat * 2 ^ 8 + y.toNat := by simp [numOf]
  rw [e2]
  exact congrArg (fun n => Ending.returned (.int .u64 n)) e

set_option maxRecDepth 100000 in
theorem twice16 {w : World} {g : Nat} {a b c d : UInt8} {l : List UInt8} {f m : Bool} (h : Rr w g (a :: b :: c :: d :: l) f m) :
    Calls Try.prog 117 #[.func (.func 108) #[.pointer (some ⟨g, 0, none⟩)] #[], .int .i64 16] w fun e w' => e = .returned (.int .u64 (numOf [a, b, c, d] : Nat)) ∧ Left w g l f m w' := by
  have hx : numOf [a, b] < 65536 := by have := numOf_lt [a, b]; simpa using this
  have hy : numOf [c, d] < 65536 := by have := numOf_lt [c, d]; simpa using this
  have e2 : numOf [a, b, c, d] = numOf [a, b] * 2 ^ 16 + numOf [c, d] := by
    have := numOf_app [a, b] [c, d]
    simpa using this
  have E2 := Lib.hid e2
  clear e2
  go_enter Try.func117, Try.ntmps117
  go_wp2_with fail
  refine (two_any h).mono ?_
  rintro e w1 ⟨rfl, h1⟩
  have h1d : Rr w1.drew g (c :: d :: l) f m := h1.1.keep (F := fun _ => False) ((Fr.refl _ _).drew) (fun _ q => q.elim)
  have hf1 := h1.2.drew
  clear h1 hy
  generalize numOf [a, b] = n at *
  have hw : IntKind.u64.wrap ((n : Int) * 65536) = (n : Int) * 65536 := by rw [wrapU]; omega
  have hy : numOf [c, d] < 65536 := by have := numOf_lt [c, d]; simpa using this
  go_wp2_with fail
  go_region_with ((go_at_call 108; refine (two_any h1d).mono ?_; rintro e w2 ⟨rfl, h2⟩))
  go_wp2
  go_ret
  refine ⟨?_, h2.1, hf1.trans h2.2 (fun _ _ => id)⟩
  have e := or_shift n (numOf [c, d]) 16 hy (by omega)
  rw [E2.out]
  exact congrArg (fun n => Ending.returned (.int .u64 n)) e

set_option maxRecDepth 100000 in
theorem four_any {w : World} {g : Nat} {a b c d : UInt8} {l : List UInt8} {f m : Bool} (h : Rr w g (a :: b :: c :: d :: l) f m) :
    Calls Try.prog 109 #[.pointer (some ⟨g, 0, none⟩)] w fun e w' => e = .returned (.int .u64 (numOf [a, b, c, d] : Nat)) ∧ Left w g l f m w' := by
  go_enter Try.func109, Try.ntmps109
  go_wp2_with fail
  refine (twice16 h).mono ?_
  rintro e w1 ⟨rfl, h1⟩
  go_wp2
  go_ret
  exact ⟨rfl, h1⟩

set_option maxRecDepth 100000 in
theorem twice32 {w : World} {g : Nat} {a b c d a' b' c' d' : UInt8} {l : List UInt8} {f m : Bool} (h : Rr w g (a :: b :: c :: d :: a' :: b' :: c' :: d' :: l) f m) :
    Calls Try.prog 117 #[.func (.func 109) #[.pointer (some ⟨g, 0, none⟩)] #[], .int .i64 32] w fun e w' => e = .returned (.int .u64 (numOf [a, b, c, d, a', b', c', d'] : Nat)) ∧ Left w g l f m w' := by
  have hx : numOf [a, b, c, d] < 4294967296 := by have := numOf_lt [a, b, c, d]; simpa using this
  have e2 : numOf [a, b, c, d, a', b', c', d'] = numOf [a, b, c, d] * 2 ^ 32 + numOf [a', b', c', d'] := by
    have := numOf_app [a, b, c, d] [a', b', c', d']
    simpa using this
  have E2 := Lib.hid e2
  clear e2
  go_enter Try.func117, Try.ntmps117
  go_wp2_with fail
  refine (four_any h).mono ?_
  rintro e w1 ⟨rfl, h1⟩
  have h1d : Rr w1.drew g (a' :: b' :: c' :: d' :: l) f m := h1.1.keep (F := fun _ => False) ((Fr.refl _ _).drew) (fun _ q => q.elim)
  have hf1 := h1.2.drew
  clear h1
  generalize numOf [a, b, c, d] = n at *
  have hw : IntKind.u64.wrap ((n : Int) * 4294967296) = (n : Int) * 4294967296 := by rw [wrapU]; omega
  have hy : numOf [a', b', c', d'] < 4294967296 := by have := numOf_lt [a', b', c', d']; simpa using this
  go_wp2_with fail
  go_region_with ((go_at_call 109; refine (four_any h1d).mono ?_; rintro e w2 ⟨rfl, h2⟩))
  go_wp2
  go_ret
  refine ⟨?_, h2.1, hf1.trans h2.2 (fun _ _ => id)⟩
  have e := or_shift n (numOf [a', b', c', d']) 32 hy (by omega)
  rw [E2.out]
  exact congrArg (fun n => Ending.returned (.int .u64 n)) e

set_option maxRecDepth 100000 in
theorem eight_any {w : World} {g : Nat} {a b c d a' b' c' d' : UInt8} {l : List UInt8} {f m : Bool} (h : Rr w g (a :: b :: c :: d :: a' :: b' :: c' :: d' :: l) f m) :
    Calls Try.prog 110 #[.pointer (some ⟨g, 0, none⟩)] w fun e w' => e = .returned (.int .u64 (numOf [a, b, c, d, a', b', c', d'] : Nat)) ∧ Left w g l f m w' := by
  go_enter Try.func110, Try.ntmps110
  go_wp2_with fail
  refine (twice32 h).mono ?_
  rintro e w1 ⟨rfl, h1⟩
  go_wp2
  go_ret
  exact ⟨rfl, h1⟩
end Go.Proofs.Ytmopkfjnjbimnaa

namespace Go.Proofs.Ytmopkfjnjbimnaa
open Go.RowKit

/-- Number: what is answered, what is left, has it failed? -/
def tkOk (l : List UInt8) (s : Int) : Bool := maySz s && decide (s ≤ l.length)
def tkNum (l : List UInt8) (s : Int) : Nat := if tkOk l s then numOf (l.take s.toNat) else 0
def tkRest (l : List UInt8) (s : Int) : List UInt8 := if tkOk l s then l.drop s.toNat else []

set_option maxRecDepth 100000 in
theorem rfail_left {w : World} {g : Nat} {l : List UInt8} {f m : Bool} (h : Rr w g l f m) :
    Calls Try.prog 106 #[.pointer (some ⟨g, 0, none⟩)] w fun e w' => e = .returned (.tuple #[]) ∧ Left w g [] true m w' := rfail_any h

set_option maxRecDepth 100000 in
theorem rnumber_nil (w : World) (s : Int) : Calls Try.prog 87 #[.pointer none, .int .i64 s] w fun e w' => e = .returned (.int .u64 0) ∧ w = w' := by
  cases hm : maySz s with
  | false =>
    have hm' := Lib.hid hm
    clear hm
    go_enter Try.func87, Try.ntmps87
    go_wp2_with fail
    refine (maySize_no s hm'.out _).mono ?_
    rintro e w' ⟨rfl, rfl⟩
    go_wp2_with fail
    refine (rfail_nil _).mono ?_
    rintro e w' ⟨rfl, rfl⟩
    go_wp2
    go_ret
    exact ⟨rfl, rfl⟩
  | true =>
    have hm' := Lib.hid hm
    clear hm
    go_enter Try.func87, Try.ntmps87
    go_wp2_with fail
    refine (maySize_yes s hm'.out _).mono ?_
    rintro e w' ⟨rfl, rfl⟩
    go_wp2_with fail
    refine (has_nil _ _).mono ?_
    rintro e w' ⟨rfl, rfl⟩
    go_wp2_with fail
    refine (rfail_nil _).mono ?_
    rintro e w' ⟨rfl, rfl⟩
    go_wp2
    go_ret
    exact ⟨rfl, rfl⟩

set_option maxRecDepth 100000 in
theorem rnumber_fail {w : World} {g : Nat} {l : List UInt8} {f m : Bool} (h : Rr w g l f m) (s : Int) (ht : tkOk l s = false) :
    Calls Try.prog 87 #[.pointer (some ⟨g, 0, none⟩), .int .i64 s] w fun e w' => e = .returned (.int .u64 0) ∧ Left w g [] true m w' := by
  cases hm : maySz s with
  | false =>
    have hm' := Lib.hid hm
    clear hm ht
    go_enter Try.func87, Try.ntmps87
    go_wp2_with fail
    refine (maySize_no s hm'.out _).mono ?_
    rintro e w' ⟨rfl, rfl⟩
    go_wp2_with fail
    refine (rfail_left h).mono ?_
    rintro e w' ⟨rfl, h1⟩
    go_wp2
    go_ret
    exact ⟨rfl, h1⟩
  | true =>
    have hm' := Lib.hid hm
    have hl : (l.length : Int) < s := by simpa [tkOk, hm] using ht
    clear hm ht
    go_enter Try.func87, Try.ntmps87
    go_wp2_with fail
    refine (maySize_yes s hm'.out _).mono ?_
    rintro e w' ⟨rfl, rfl⟩
    go_wp2_with fail
    refine (has_no h s hl).mono ?_
    rintro e w' ⟨rfl, rfl⟩
    go_wp2_with fail
    refine (rfail_left h).mono ?_
    rintro e w' ⟨rfl, h1⟩
    go_wp2
    go_ret
    exact ⟨rfl, h1⟩

set_option maxRecDepth 100000 in
theorem list1 (l : List UInt8) (h : 1 ≤ l.length) : ∃ a r, l = a :: r := by
  cases l with
  | nil => simp at h
  | cons a r => exact ⟨a, r, rfl⟩
set_option maxRecDepth 100000 in
theorem list2 (l : List UInt8) (h : 2 ≤ l.length) : ∃ a b r, l = a :: b :: r := by
  obtain ⟨a, r, rfl⟩ := list1 l (by omega)
  obtain ⟨b, r, rfl⟩ := list1 r (by simp at h; omega)
  exact ⟨a, b, r, rfl⟩
set_option maxRecDepth 100000 in
theorem list4 (l : List UInt8) (h : 4 ≤ l.length) : ∃ a b c d r, l = a :: b :: c :: d :: r := by
  obtain ⟨a, b, r, rfl⟩ := list2 l (by omega)
  obtain ⟨c, d, r, rfl⟩ := list2 r (by simp at h; omega)
  exact ⟨a, b, c, d, r, rfl⟩
set_option maxRecDepth 100000 in
theorem list8 (l : List UInt8) (h : 8 ≤ l.length) : ∃ a b c d a' b' c' d' r, l = a :: b :: c :: d :: a' :: b' :: c' :: d' :: r := by
  obtain ⟨a, b, c, d, r, rfl⟩ := list4 l (by omega)
  obtain ⟨a', b', c', d', r, rfl⟩ := list4 r (by simp at h; omega)
  exact ⟨a, b, c, d, a', b', c', d', r, rfl⟩

set_option maxRecDepth 100000 in
theorem rnumber_ok {w : World} {g : Nat} {l : List UInt8} {f m : Bool} (h : Rr w g l f m) (s : Int) (ht : tkOk l s = true) :
    Calls Try.prog 87 #[.pointer (some ⟨g, 0, none⟩), .int .i64 s] w fun e w' => e = .returned (.int .u64 (numOf (l.take s.toNat) : Nat)) ∧ Left w g (l.drop s.toNat) f m w' := by
  have hq : (s = 1 ∨ s = 2 ∨ s = 4 ∨ s = 8) ∧ s ≤ l.length := by simpa [tkOk, maySz, or_assoc] using ht
  clear ht
  obtain ⟨hs, hl⟩ := hq
  rcases hs with rfl | rfl | rfl | rfl
  · obtain ⟨a, r, rfl⟩ := list1 l (by omega)
    go_enter Try.func87, Try.ntmps87
    go_wp2_with fail
    refine (maySize_yes _ rfl _).mono ?_
    rintro e w' ⟨rfl, rfl⟩
    go_wp2_with fail
    refine (has_yes h _ hl).mono ?_
    rintro e w' ⟨rfl, rfl⟩
    go_wp2_with fail
    refine (one_any h).mono ?_
    rintro e w' ⟨rfl, h1⟩
    go_wp2
    go_ret
    exact ⟨by simp [numOf], h1⟩
  · obtain ⟨a, b, r, rfl⟩ := list2 l (by omega)
    go_enter Try.func87, Try.ntmps87
    go_wp2_with fail
    refine (maySize_yes _ rfl _).mono ?_
    rintro e w' ⟨rfl, rfl⟩
    go_wp2_with fail
    refine (has_yes h _ hl).mono ?_
    rintro e w' ⟨rfl, rfl⟩
    go_wp2_with fail
    refine (two_any h).mono ?_
    rintro e w' ⟨rfl, h1⟩
    go_wp2
    go_ret
    exact ⟨rfl, h1⟩
  · obtain ⟨a, b, c, d, r, rfl⟩ := list4 l (by omega)
    go_enter Try.func87, Try.ntmps87
    go_wp2_with fail
    refine (maySize_yes _ rfl _).mono ?_
    rintro e w' ⟨rfl, rfl⟩
    go_wp2_with fail
    refine (has_yes h _ hl).mono ?_
    rintro e w' ⟨rfl, rfl⟩
    go_wp2_with fail
    refine (four_any h).mono ?_
    rintro e w' ⟨rfl, h1⟩
    go_wp2
    go_ret
    exact ⟨rfl, h1⟩
  · obtain ⟨a, b, c, d, a', b', c', d', r, rfl⟩ := list8 l (by omega)
    go_enter Try.func87, Try.ntmps87
    go_wp2_with fail
    refine (maySize_yes _ rfl _).mono ?_
    rintro e w' ⟨rfl, rfl⟩
    go_wp2_with fail
    refine (has_yes h _ hl).mono ?_
    rintro e w' ⟨rfl, rfl⟩
    go_wp2_with fail
    refine (eight_any h).mono ?_
    rintro e w' ⟨rfl, h1⟩
    go_wp2
    go_ret
    exact ⟨rfl, h1⟩

set_option maxRecDepth 100000 in
theorem rnumber_any {w : World} {g : Nat} {l : List UInt8} {f m : Bool} (h : Rr w g l f m) (s : Int) :
    Calls Try.prog 87 #[.pointer (some ⟨g, 0, none⟩), .int .i64 s] w fun e w' => e = .returned (.int .u64 (tkNum l s : Nat)) ∧ Left w g (tkRest l s) (f || !tkOk l s) m w' := by
  cases ht : tkOk l s with
  | true =>
    have e1 : tkNum l s = numOf (l.take s.toNat) := by simp [tkNum, ht]
    have e2 : tkRest l s = l.drop s.toNat := by simp [tkRest, ht]
    rw [e1, e2]
    simpa using rnumber_ok h s ht
  | false =>
    have e1 : tkNum l s = 0 := by simp [tkNum, ht]
    have e2 : tkRest l s = [] := by simp [tkRest, ht]
    rw [e1, e2]
    simpa using rnumber_fail h s ht

set_option maxRecDepth 100000 in
theorem tkNum_lt (l : List UInt8) (s : Int) : tkNum l s < 18446744073709551616 := by
  unfold tkNum
  split
  · rename_i ht
    have hq : (s = 1 ∨ s = 2 ∨ s = 4 ∨ s = 8) ∧ s ≤ l.length := by simpa [tkOk, maySz, or_assoc] using ht
    have h := numOf_lt (l.take s.toNat)
    have hl : (l.take s.toNat).length ≤ 8 := by rw [List.length_take]; omega
    have := Nat.pow_le_pow_right (show 0 < 256 by omega) hl
    have e : 256 ^ 8 = 18446744073709551616 := by decide
    omega
  · omega
end Go.Proofs.Ytmopkfjnjbimnaa

namespace Go.Proofs.Ytmopkfjnjbimnaa
open Go.RowKit

set_option maxRecDepth 100000 in
theorem tkNum_2 (l : List UInt8) : tkNum l 2 < 65536 := by
  unfold tkNum
  split
  · have h := numOf_lt (l.take (2 : Int).toNat)
    have hl : (l.take (2 : Int).toNat).length ≤ 2 := by rw [List.length_take]; omega
    have := Nat.pow_le_pow_right (show 0 < 256 by omega) hl
    omega
  · omega
set_option maxRecDepth 100000 in
theorem tkNum_1 (l : List UInt8) : tkNum l 1 < 256 := by
  unfold tkNum
  split
  · have h := numOf_lt (l.take (1 : Int).toNat)
    have hl : (l.take (1 : Int).toNat).length ≤ 1 := by rw [List.length_take]; omega
    have := Nat.pow_le_pow_right (show 0 < 256 by omega) hl
    omega
  · omega
set_option maxRecDepth 100000 in
theorem tkNum_4 (l : List UInt8) : tkNum l 4 < 4294967296 := by
  unfold tkNum
  split
  · have h := numOf_lt (l.take (4 : Int).toNat)
    have hl : (l.take (4 : Int).toNat).length ≤ 4 := by rw [List.length_take]; omega
    have := Nat.pow_le_pow_right (show 0 < 256 by omega) hl
    omega
  · omega

/-- Flag: has it gone well? What is left? -/
def flOk (l : List UInt8) : Bool := tkOk l 1 && decide (tkNum l 1 ≤ 1)
def flRest (l : List UInt8) : List UInt8 := if flOk l then l.drop 1 else []
/-- Bytes: what is answered, what is left. -/
def byOk (l : List UInt8) (n : Int) : Bool := decide (0 ≤ n ∧ n ≤ l.length)
def byGot (l : List UInt8) (n : Int) : List UInt8 := if byOk l n then l.take n.toNat else []
def byRest (l : List UInt8) (n : Int) : List UInt8 := if byOk l n then l.drop n.toNat else []
/-- A slice that was just made holds l; else only the reader's block turned. -/
def Got (w : World) (g : Nat) (got l : List UInt8) (f m : Bool) (v : Value) (w' : World) : Prop :=
  w'.ownsRow w.heap.size 5 1 v got.length (cellsB got) ∧ Rr w' g l f m ∧ Fr (fun k => k = g) w w'

/-- Blob: has it gone well? What is answered, what is left? -/
def blOk (l : List UInt8) : Bool := tkOk l 4 && decide (tkNum l 4 ≤ 16777216) && byOk (tkRest l 4) (tkNum l 4 : Nat)
def blGot (l : List UInt8) : List UInt8 := if blOk l then (l.drop 4).take (tkNum l 4) else []
def blRest (l : List UInt8) : List UInt8 := if blOk l then (l.drop 4).drop (tkNum l 4) else []

set_option maxRecDepth 100000 in
theorem blob_eqs (l : List UInt8) (h : tkNum l 4 ≤ 16777216) (f : Bool) :
    byGot (tkRest l 4) (tkNum l 4 : Nat) = blGot l ∧ byRest (tkRest l 4) (tkNum l 4 : Nat) = blRest l ∧ ((f || !tkOk l 4) || !byOk (tkRest l 4) (tkNum l 4 : Nat)) = (f || !blOk l) := by
  cases ht : tkOk l 4 with
  | false =>
    have e1 : tkNum l 4 = 0 := by simp [tkNum, ht]
    have e2 : tkRest l 4 = [] := by simp [tkRest, ht]
    have e3 : blOk l = false := by simp [blOk, ht]
    rw [e1, e2]
    simp [byGot, byRest, byOk, blGot, blRest, e3]
  | true =>
    have e2 : tkRest l 4 = l.drop 4 := by simp [tkRest, ht]
    have e3 : blOk l = byOk (tkRest l 4) (tkNum l 4 : Nat) := by simp [blOk, ht, h]
    refine ⟨?_, ?_, ?_⟩
    · unfold byGot blGot
      rw [e3, e2, Int.toNat_natCast]
    · unfold byRest blRest
      rw [e3, e2, Int.toNat_natCast]
    · rw [e3]
      simp

set_option maxRecDepth 100000 in
theorem Got.then_ {w w1 w2 : World} {g : Nat} {l l' got : List UInt8} {f m f' m' : Bool} {v : Value} (h : Left w g l f m w1) (k : Got w1 g got l' f' m' v w2) : w2.ownsRow w.heap.size 5 1 v got.length (cellsB got) ∧ Rr w2 g l' f' m' ∧ Fr (fun k => k = g) w w2 := by
  refine ⟨?_, k.2.1, h.2.trans k.2.2 (fun _ _ => id)⟩
  refine ⟨k.1.1, k.1.2.imp id ?_⟩
  rintro ⟨g', cap, cur, e, hb, rest⟩
  exact ⟨g', cap, cur, e, Nat.le_trans h.2.size hb, rest⟩

end Go.Proofs.Ytmopkfjnjbimnaa

namespace Go.Proofs.Ytmopkfjnjbimnaa

def isDig (c : UInt8) : Bool := decide (48 ≤ c.toNat ∧ c.toNat ≤ 57)
/-- What digits come to. -/
def dval (l : List UInt8) : Nat := l.foldl (fun n c => n * 10 + (c.toNat - 48)) 0
/-- Are they a number's digits? -/
def mayB (l : List UInt8) : Bool := l.all isDig && (l == [48] || (!l.isEmpty && !(l.head? == some 48)))
/-- A number's digits. -/
def txt (n : Nat) : List UInt8 := if n < 10 then [UInt8.ofNat (48 + n)] else txt (n / 10) ++ [UInt8.ofNat (48 + n % 10)]
termination_by n
decreasing_by omega

set_option maxRecDepth 100000 in
theorem dval_from (l : List UInt8) : ∀ n, l.foldl (fun n c => n * 10 + (c.toNat - 48)) n = n * 10 ^ l.length + dval l := by
  induction l with
  | nil => intro n; simp [dval]
  | cons c l ih =>
    intro n
    simp only [List.foldl_cons, List.length_cons, dval]
    rw [ih, ih, Nat.zero_mul, Nat.zero_add, Nat.pow_succ', Nat.add_mul, Nat.mul_assoc, Nat.add_assoc]
set_option maxRecDepth 100000 in
theorem dval_app (p q : List UInt8) : dval (p ++ q) = dval p * 10 ^ q.length + dval q := by
  unfold dval
  rw [List.foldl_append, dval_from]
  rfl
set_option maxRecDepth 100000 in
theorem dval_cons (c : UInt8) (l : List UInt8) : dval (c :: l) = (c.toNat - 48) * 10 ^ l.length + dval l := by
  rw [show c :: l = [c] ++ l from rfl, dval_app]
  simp [dval]
set_option maxRecDepth 100000 in
theorem dval_snoc (l : List UInt8) (c : UInt8) : dval (l ++ [c]) = dval l * 10 + (c.toNat - 48) := by
  rw [dval_app]
  simp [dval]
set_option maxRecDepth 100000 in
theorem dval_lt (l : List UInt8) (h : l.all isDig = true) : dval l < 10 ^ l.length := by
  induction l with
  | nil => simp [dval]
  | cons c l ih =>
    simp only [List.all_cons, Bool.and_eq_true] at h
    have hc : 48 ≤ c.toNat ∧ c.toNat ≤ 57 := of_decide_eq_true h.1
    have := ih h.2
    rw [dval_cons, List.length_cons, Nat.pow_succ']
    have h9 : (c.toNat - 48) * 10 ^ l.length ≤ 9 * 10 ^ l.length := Nat.mul_le_mul_right _ (by omega)
    omega
set_option maxRecDepth 100000 in
theorem dval_ge (c : UInt8) (l : List UInt8) (h : (c :: l).all isDig = true) (hc : c ≠ 48) : 10 ^ l.length ≤ dval (c :: l) := by
  simp only [List.all_cons, Bool.and_eq_true] at h
  have hd : 48 ≤ c.toNat ∧ c.toNat ≤ 57 := of_decide_eq_true h.1
  have hne : c.toNat ≠ 48 := fun e => hc (UInt8.toNat_inj.1 (by simpa using e))
  rw [dval_cons]
  have : 1 * 10 ^ l.length ≤ (c.toNat - 48) * 10 ^ l.length := Nat.mul_le_mul_right _ (by omega)
  omega

set_option maxRecDepth 100000 in
theorem toNat_dig (k : Nat) (h : k < 10) : (UInt8.ofNat (48 + k)).toNat = 48 + k := by
  rw [UInt8.toNat_ofNat']
  omega
set_option maxRecDepth 100000 in
theorem txt_lt (n : Nat) (h : n < 10) : txt n = [UInt8.ofNat (48 + n)] := by rw [txt, if_pos h]
set_option maxRecDepth 100000 in
theorem txt_ge (n : Nat) (h : ¬ n < 10) : txt n = txt (n / 10) ++ [UInt8.ofNat (48 + n % 10)] := by rw [txt, if_neg h]
set_option maxRecDepth 100000 in
theorem txt_digs (n : Nat) : (txt n).all isDig = true ∧ dval (txt n) = n ∧ txt n ≠ [] := by
  induction n using Nat.strongRecOn with
  | ind n ih =>
    by_cases h : n < 10
    · rw [txt_lt n h]
      have := toNat_dig n h
      refine ⟨?_, ?_, by simp⟩
      · simp only [List.all_cons, List.all_nil, Bool.and_true, isDig, decide_eq_true_eq, this]; omega
      · simp only [dval, List.foldl_cons, List.foldl_nil, this]; omega
    · rw [txt_ge n h]
      obtain ⟨h1, h2, h3⟩ := ih (n / 10) (by omega)
      have := toNat_dig (n % 10) (by omega)
      refine ⟨?_, ?_, by simp⟩
      · simp only [List.all_append, h1, Bool.true_and, List.all_cons, List.all_nil, Bool.and_true, isDig, decide_eq_true_eq, this]; omega
      · rw [dval_snoc, h2, this]; omega
set_option maxRecDepth 100000 in
theorem txt_head (n : Nat) (h : 0 < n) : (txt n).head? ≠ some 48 := by
  induction n using Nat.strongRecOn with
  | ind n ih =>
    by_cases h10 : n < 10
    · rw [txt_lt n h10]
      have e := toNat_dig n h10
      intro hq
      simp only [List.head?_cons, Option.some.injEq] at hq
      rw [hq] at e
      simp at e
      omega
    · rw [txt_ge n h10]
      have h3 := (txt_digs (n / 10)).2.2
      have := ih (n / 10) (by omega) (by omega)
      cases ht : txt (n / 10) with
      | nil => exact absurd ht h3
      | cons c r => rw [ht] at this; simpa using this
set_option maxRecDepth 100000 in
theorem txt_zero : txt 0 = [48] := by rw [txt_lt 0 (by omega)]; rfl
set_option maxRecDepth 100000 in
theorem txt_may (n : Nat) : mayB (txt n) = true := by
  obtain ⟨h1, _, h3⟩ := txt_digs n
  unfold mayB
  rw [h1, Bool.true_and, Bool.or_eq_true]
  rcases Nat.eq_zero_or_pos n with rfl | h
  · left; rw [txt_zero]; rfl
  · right
    have := txt_head n h
    cases ht : txt n with
    | nil => exact absurd ht h3
    | cons c r => rw [ht] at this; simpa using this

set_option maxRecDepth 100000 in
/-- What a canonical text is: a nought, or it begins with another digit. -/
theorem mayB_form {l : List UInt8} (h : mayB l = true) : l.all isDig = true ∧ (l = [48] ∨ ∃ c r, l = c :: r ∧ c ≠ 48) := by
  unfold mayB at h
  rw [Bool.and_eq_true, Bool.or_eq_true] at h
  refine ⟨h.1, ?_⟩
  rcases h.2 with h | h
  · exact .inl (by simpa using h)
  · cases l with
    | nil => simp at h
    | cons c r => exact .inr ⟨c, r, rfl, by simpa using h⟩

set_option maxRecDepth 100000 in
/-- Texts of one length stand as their numbers do. -/
theorem less_iff : ∀ (a b : List UInt8), a.length = b.length → a.all isDig = true → b.all isDig = true → (Op.bytesLess a b = true ↔ dval a < dval b)
  | [], [], _, _, _ => by simp [Op.bytesLess, dval]
  | [], _ :: _, h, _, _ => by simp at h
  | _ :: _, [], h, _, _ => by simp at h
  | x :: a, y :: b, h, ha, hb => by
    have hl : a.length = b.length := by simpa using h
    have hda := ha
    have hdb := hb
    simp only [List.all_cons, Bool.and_eq_true] at ha hb
    have ih := less_iff a b hl ha.2 hb.2
    have hx : 48 ≤ x.toNat ∧ x.toNat ≤ 57 := of_decide_eq_true ha.1
    have hy : 48 ≤ y.toNat ∧ y.toNat ≤ 57 := of_decide_eq_true hb.1
    have la := dval_lt a ha.2
    have lb := dval_lt b hb.2
    rw [dval_cons, dval_cons, hl]
    rw [hl] at la
    simp only [Op.bytesLess, Bool.or_eq_true, Bool.and_eq_true, decide_eq_true_eq, beq_iff_eq]
    rw [ih, UInt8.lt_iff_toNat_lt]
    generalize 10 ^ b.length = M at *
    constructor
    · rintro (h | ⟨rfl, h⟩)
      · have : (x.toNat - 48 + 1) * M ≤ (y.toNat - 48) * M := Nat.mul_le_mul_right _ (by omega)
        rw [Nat.add_mul, Nat.one_mul] at this
        omega
      · omega
    · intro h
      rcases Nat.lt_trichotomy x.toNat y.toNat with q | q | q
      · exact .inl q
      · refine .inr ⟨UInt8.toNat_inj.1 q, ?_⟩
        rw [q] at h
        omega
      · have : (y.toNat - 48 + 1) * M ≤ (x.toNat - 48) * M := Nat.mul_le_mul_right _ (by omega)
        rw [Nat.add_mul, Nat.one_mul] at this
        omega

/-- Is a text, digits of it, more than another one? -/
def aboveB (a b : List UInt8) : Bool := decide (b.length < a.length) || (decide (a.length = b.length) && !(Op.bytesLess a b || a == b))

set_option maxRecDepth 100000 in
theorem len_le {a b : List UInt8} (ha : mayB a = true) (hb : mayB b = true) (h : b.length < a.length) : dval b < dval a := by
  obtain ⟨da, fa⟩ := mayB_form ha
  obtain ⟨db, fb⟩ := mayB_form hb
  have hb1 : 1 ≤ b.length := by rcases fb with rfl | ⟨c, r, rfl, _⟩ <;> simp
  have h1 := dval_lt b db
  rcases fa with rfl | ⟨c, r, rfl, hc⟩
  · simp only [List.length_cons, List.length_nil] at h; omega
  · have h2 := dval_ge c r da hc
    simp only [List.length_cons] at h
    have := Nat.pow_le_pow_right (show 0 < 10 by omega) (show b.length ≤ r.length by omega)
    omega

set_option maxRecDepth 100000 in
theorem above_iff {a b : List UInt8} (ha : mayB a = true) (hb : mayB b = true) : aboveB a b = decide (dval b < dval a) := by
  rw [Bool.eq_iff_iff, decide_eq_true_eq]
  unfold aboveB
  rw [Bool.or_eq_true, Bool.and_eq_true, decide_eq_true_eq, decide_eq_true_eq]
  rcases Nat.lt_trichotomy a.length b.length with h | h | h
  · have := len_le hb ha h
    constructor
    · rintro (q | ⟨q, _⟩) <;> omega
    · intro q; omega
  · have hd := less_iff a b h (mayB_form ha).1 (mayB_form hb).1
    have hd' := less_iff b a h.symm (mayB_form hb).1 (mayB_form ha).1
    have he : ∀ (x y : List UInt8), x.length = y.length → x.all isDig = true → y.all isDig = true → dval x = dval y → x = y := by
      intro x
      induction x with
      | nil => intro y hl _ _ _; exact (List.eq_nil_of_length_eq_zero (by simpa using hl.symm)).symm
      | cons c x ih =>
        intro y hl hx hy hv
        cases y with
        | nil => simp at hl
        | cons d y =>
          have hl' : x.length = y.length := by simpa using hl
          simp only [List.all_cons, Bool.and_eq_true] at hx hy
          have hc : 48 ≤ c.toNat ∧ c.toNat ≤ 57 := of_decide_eq_true hx.1
          have hdd : 48 ≤ d.toNat ∧ d.toNat ≤ 57 := of_decide_eq_true hy.1
          have lx := dval_lt x hx.2
          have ly := dval_lt y hy.2
          rw [dval_cons, dval_cons, hl'] at hv
          rw [hl'] at lx
          generalize hM : 10 ^ y.length = M at *
          have hcd : c.toNat = d.toNat := by
            rcases Nat.lt_trichotomy c.toNat d.toNat with q | q | q
            · have : (c.toNat - 48 + 1) * M ≤ (d.toNat - 48) * M := Nat.mul_le_mul_right _ (by omega)
              rw [Nat.add_mul, Nat.one_mul] at this
              omega
            · exact q
            · have : (d.toNat - 48 + 1) * M ≤ (c.toNat - 48) * M := Nat.mul_le_mul_right _ (by omega)
              rw [Nat.add_mul, Nat.one_mul] at this
              omega
          have e1 : c = d := UInt8.toNat_inj.1 hcd
          rw [hcd] at hv
          rw [e1, ih y hl' hx.2 hy.2 (by omega)]
    constructor
    · rintro (q | ⟨_, q⟩)
      · omega
      · rw [Bool.not_eq_true', Bool.or_eq_false_iff] at q
        have h1 : ¬ dval a < dval b := fun hh => by rw [hd.2 hh] at q; cases q.1
        have h2 : dval a ≠ dval b := fun hh => by
          have := he a b h (mayB_form ha).1 (mayB_form hb).1 hh
          rw [this] at q
          simp at q
        omega
    · intro q
      refine .inr ⟨h, ?_⟩
      rw [Bool.not_eq_true', Bool.or_eq_false_iff]
      refine ⟨?_, ?_⟩
      · rw [Bool.eq_false_iff]
        intro hh
        have := hd.1 hh
        omega
      · rw [beq_eq_false_iff_ne]
        rintro rfl
        omega
  · have := len_le ha hb h
    constructor
    · intro _; exact this
    · intro _; exact .inl h
end Go.Proofs.Ytmopkfjnjbimnaa

namespace Go.Proofs.Ytmopkfjnjbimnaa
open Go.RowKit

set_option maxRecDepth 100000 in
theorem txt_len (m : Nat) : ∀ n, n < 10 ^ (m + 1) → (txt n).length ≤ m + 1 := by
  induction m with
  | zero => intro n h; rw [txt_lt n (by omega)]; simp
  | succ m ih =>
    intro n h
    by_cases h10 : n < 10
    · rw [txt_lt n h10]; simp
    · rw [txt_ge n h10]
      have := ih (n / 10) (by rw [Nat.pow_succ] at h; omega)
      simp only [List.length_append, List.length_cons, List.length_nil]
      omega

/-- Where the making of a text stands. -/
def TxtAt (n k : Nat) (l : List UInt8) : Prop := (0 < k ∧ txt n = txt k ++ l) ∨ (k = 0 ∧ l = [] ∧ n = 0) ∨ (k = 0 ∧ l ≠ [] ∧ txt n = l)
set_option maxRecDepth 100000 in
theorem TxtAt.start (n : Nat) : TxtAt n n [] := by
  rcases Nat.eq_zero_or_pos n with rfl | h
  · exact .inr (.inl ⟨rfl, rfl, rfl⟩)
  · exact .inl ⟨h, by simp⟩
set_option maxRecDepth 100000 in
theorem TxtAt.step {n k : Nat} {l : List UInt8} (h : TxtAt n k l) (hq : 0 < k ∨ l = []) : TxtAt n (k / 10) (UInt8.ofNat (48 + k % 10) :: l) := by
  rcases h with ⟨hk, e⟩ | ⟨rfl, rfl, rfl⟩ | ⟨rfl, hl, _⟩
  · by_cases h10 : k < 10
    · refine .inr (.inr ⟨by omega, by simp, ?_⟩)
      rw [e, txt_lt k h10, Nat.mod_eq_of_lt h10]
      rfl
    · refine .inl ⟨by omega, ?_⟩
      rw [e, txt_ge k h10, List.append_assoc]
      rfl
  · exact .inr (.inr ⟨rfl, by simp, txt_zero⟩)
  · rcases hq with h | h
    · omega
    · exact absurd h hl
set_option maxRecDepth 100000 in
theorem TxtAt.len {n k : Nat} {l : List UInt8} (h : TxtAt n k l) (hn : n < 18446744073709551616) : l.length ≤ 20 := by
  have := txt_len 19 n (by omega)
  rcases h with ⟨_, e⟩ | ⟨_, rfl, _⟩ | ⟨_, _, e⟩
  · rw [e, List.length_append] at this; omega
  · simp
  · rw [e] at this; omega

/-- One, of an empty text. -/
def noneYet : Value → Nat
  | .string s => 1 - s.size
  | _ => 0

set_option maxRecDepth 100000 in
theorem conv_one (w : World) (c : UInt8) : (convert 31 9 (.slice (some ⟨w.heap.size, 0, none⟩) 1 1)).run Try.prog (w.alloc (.cells #[.int .u8 (c.toNat : Int)] 5)) = .ok (.string ⟨#[c]⟩) (w.alloc (.cells #[.int .u8 (c.toNat : Int)] 5)) :=
  conv_string (P := Try.prog) 31 9 5 (Rd.one w 5 c) Try.underlying31 Try.underlying5 Try.underlying9

set_option maxRecDepth 100000 in
theorem str_app (c : UInt8) (s : ByteArray) : ((⟨#[c]⟩ : ByteArray) ++ s).data.toList = c :: s.data.toList := by
  rw [ByteArray.data_append]
  simp

set_option maxRecDepth 100000 in
theorem take_snoc (s : ByteArray) (k : Nat) (h : k < s.size) : s.data.toList.take (k + 1) = s.data.toList.take k ++ [s[k]] := by
  rw [List.take_succ_eq_append_getElem (by simpa using h)]; rfl
set_option maxRecDepth 100000 in
theorem take_all (s : ByteArray) (k : Nat) (h : ¬ k < s.size) : s.data.toList.take k = s.data.toList := List.take_of_length_le (by rw [Array.length_toList]; exact Nat.le_of_not_lt h)

set_option maxRecDepth 100000 in
theorem get_lst (s : ByteArray) (k : Nat) (h : k < s.size) : s.data.toList[k]? = some s[k] := by
  rw [List.getElem?_eq_getElem (by rw [Array.length_toList]; exact h)]
  rfl

/-- What a decimal text answers: the number, and which error (0: none). -/
def decE (l : List UInt8) (most : Nat) : Int := if mayB l then (if most < dval l then 5 else 0) else 4
def decN (l : List UInt8) (most : Nat) : Nat := if mayB l then (if most < dval l then 0 else dval l) else 0

end Go.Proofs.Ytmopkfjnjbimnaa

namespace Go.Proofs.Ytmopkfjnjbimnaa
open Go.RowKit

section
variable {P : Program} {ops : Array Oper} {Q : Exit → Act → World → Prop} {md : Region.Mode}
set_option maxRecDepth 100000 in
theorem wpOp_of_wp {i : Nat} {o : Oper} {K : Act → World → Prop} {a : Act} {w : World} (ho : ops[i]? = some o) (hw : Region.wanted o (yielded ops a.tmps) = true) (h : o.wp P a w K Q) : wpOp P ops Q i K a w := by
  unfold wpOp
  simp only [ho, hw, if_true]
  exact .inl h
set_option maxRecDepth 100000 in
theorem put_some {a : Act} {o : Oper} {d : Tmp} (h : o.dst = some d) (v : Value) : a.put o.dst v = { tmps := a.tmps.setIfInBounds d v, defers := a.defers } := by
  rw [h]; rfl
set_option maxRecDepth 100000 in
theorem put_none {a : Act} {o : Oper} (h : o.dst = none) (v : Value) : a.put o.dst v = a := by
  rw [h]; rfl
set_option maxRecDepth 100000 in
theorem anyH_take {S : World → Prop} (i : Nat) (d : Tmp) (v : Value) {oi : Oper} {fuel : Nat} {listed : Array Bool} {T : Array Value} {ds : List Deferred} {w : World} (hi : ops[i]? = some oi) (hd : oi.dst = some d)
    (hs : Region.noSelect ops = true) (hf : Region.free md ops listed i = true) (hr : (Region.ready md ops listed).contains i = true)
    (hQ : ∀ c a w, Q (.panic c) (a.put oi.dst v) w → Q (.panic c) a w) (hy : YieldsIf P ops S oi v { tmps := T, defers := ds }) (hS : S w)
    (h : wpAnyH P md ops Q S fuel (listed.setIfInBounds i true) { tmps := T.setIfInBounds d v, defers := ds } w) : wpAnyH P md ops Q S (fuel + 1) listed { tmps := T, defers := ds } w :=
  wpAnyH_take hi hs hf hr hQ hy hS (by rw [put_some hd]; exact h)
set_option maxRecDepth 100000 in
theorem wpOp_call {i : Nat} {o : Oper} {K : Act → World → Prop} {T : Array Value} {ds : List Deferred} {w : World} {f : FuncId} {args : Array Value} (d : Tmp) (ho : ops[i]? = some o) (hd : o.dst = some d) (hw : Region.wanted o (yielded ops T) = true)
    (hr : (execOp (Act.eval { tmps := T, defers := ds }) o).run P w = .ok (.enter f args) w) (h : Calls P f args w fun e w' => ∃ v, e = .returned v ∧ K { tmps := T.setIfInBounds d v, defers := ds } w') : wpOp P ops Q i K { tmps := T, defers := ds } w := by
  refine wpOp_of_wp ho hw ?_
  unfold Oper.wp
  rw [hr]
  refine Calls.mono h fun e w' he => ?_
  obtain ⟨v, rfl, hk⟩ := he
  show K (Act.put _ o.dst v) w'
  rw [put_some hd]
  exact hk
set_option maxRecDepth 100000 in
theorem wpOp_value {i : Nat} {o : Oper} {K : Act → World → Prop} {T : Array Value} {ds : List Deferred} {w w' : World} (d : Tmp) (v : Value) (ho : ops[i]? = some o) (hd : o.dst = some d) (hw : Region.wanted o (yielded ops T) = true)
    (hr : (execOp (Act.eval { tmps := T, defers := ds }) o).run P w = .ok (.value v) w') (h : K { tmps := T.setIfInBounds d v, defers := ds } w') : wpOp P ops Q i K { tmps := T, defers := ds } w := by
  refine wpOp_of_wp ho hw ?_
  unfold Oper.wp
  rw [hr]
  show K (Act.put _ o.dst v) w'
  rw [put_some hd]
  exact h
set_option maxRecDepth 100000 in
theorem wpOp_skip {i : Nat} {o : Oper} {K : Act → World → Prop} {T : Array Value} {ds : List Deferred} {w w' : World} (ho : ops[i]? = some o) (hd : o.dst = none) (hw : Region.wanted o (yielded ops T) = true)
    (hr : (execOp (Act.eval { tmps := T, defers := ds }) o).run P w = .ok .skip w') (h : K { tmps := T, defers := ds } w') : wpOp P ops Q i K { tmps := T, defers := ds } w := by
  refine wpOp_of_wp ho hw ?_
  unfold Oper.wp
  rw [hr]
  show K (Act.put _ o.dst undef) w'
  rw [put_none hd]
  exact h
end
section
variable {P : Program} {ops : Array Oper} {Q : Exit → Act → World → Prop} {md : Region.Mode} {S : World → Prop}

end
section
variable {P : Program} {ops : Array Oper} {Q : Exit → Act → World → Prop} {md : Region.Mode} {S : World → Prop}
set_option maxRecDepth 100000 in
theorem anyH_value (i : Nat) (d : Tmp) (v : Value) (w' : World) {o : Oper} {fuel : Nat} {listed : Array Bool} {T : Array Value} {ds : List Deferred} {w : World} (hr : Region.ready md ops listed = [i]) (ho : ops[i]? = some o) (hd : o.dst = some d)
    (hw : Region.wanted o (yielded ops T) = true) (hrun : (execOp (Act.eval { tmps := T, defers := ds }) o).run P w = .ok (.value v) w') (hS : S w')
    (h : wpAnyH P md ops Q S fuel (listed.setIfInBounds i true) { tmps := T.setIfInBounds d v, defers := ds } w') : wpAnyH P md ops Q S (fuel + 1) listed { tmps := T, defers := ds } w := by
  refine wpAnyH_all hr (by simp) fun j hj => ?_
  obtain rfl := List.mem_singleton.1 hj
  exact wpOp_value d v ho hd hw hrun ⟨hS, h⟩
set_option maxRecDepth 100000 in
theorem anyH_skip (i : Nat) (w' : World) {o : Oper} {fuel : Nat} {listed : Array Bool} {T : Array Value} {ds : List Deferred} {w : World} (hr : Region.ready md ops listed = [i]) (ho : ops[i]? = some o) (hd : o.dst = none)
    (hw : Region.wanted o (yielded ops T) = true) (hrun : (execOp (Act.eval { tmps := T, defers := ds }) o).run P w = .ok .skip w') (hS : S w')
    (h : wpAnyH P md ops Q S fuel (listed.setIfInBounds i true) { tmps := T, defers := ds } w') : wpAnyH P md ops Q S (fuel + 1) listed { tmps := T, defers := ds } w := by
  refine wpAnyH_all hr (by simp) fun j hj => ?_
  obtain rfl := List.mem_singleton.1 hj
  exact wpOp_skip ho hd hw hrun ⟨hS, h⟩
set_option maxRecDepth 100000 in
theorem anyH_enter (i : Nat) (d : Tmp) {o : Oper} {fuel : Nat} {listed : Array Bool} {T : Array Value} {ds : List Deferred} {w : World} {f : FuncId} {args : Array Value} (hr : Region.ready md ops listed = [i]) (ho : ops[i]? = some o) (hd : o.dst = some d)
    (hw : Region.wanted o (yielded ops T) = true) (hrun : (execOp (Act.eval { tmps := T, defers := ds }) o).run P w = .ok (.enter f args) w)
    (h : Calls P f args w fun e w' => ∃ v, e = .returned v ∧ S w' ∧ wpAnyH P md ops Q S fuel (listed.setIfInBounds i true) { tmps := T.setIfInBounds d v, defers := ds } w') : wpAnyH P md ops Q S (fuel + 1) listed { tmps := T, defers := ds } w := by
  refine wpAnyH_all hr (by simp) fun j hj => ?_
  obtain rfl := List.mem_singleton.1 hj
  exact wpOp_call d ho hd hw hrun h
end
end Go.Proofs.Ytmopkfjnjbimnaa

