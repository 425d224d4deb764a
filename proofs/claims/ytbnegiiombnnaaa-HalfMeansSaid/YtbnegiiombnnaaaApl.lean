/- Rows, one behind the other: what is laid, what is left. -/
import Derived.Test.YtbnegiiombnnaaaRow
import Derived.Maps.AppendAt
namespace Go.Proofs.Ytbnegiiombnnaaa
open Go.RowKit

def rowL (x : RowD) : List UInt8 := rowB x.c x.n.toNat x.l
def nL (x : RowD) : Nat := (many x.l.length + 1) / 2
theorem rowL_len (x : RowD) : (rowL x).length = nL x * 128 := rowB_len _ _ _
theorem nL_pos (x : RowD) : 0 < nL x := by
  have := many_pos x.l.length
  unfold nL
  omega
theorem nL_le {x : RowD} (h : x.l.length ≤ 3000) : nL x ≤ 32 := by
  unfold nL many
  omega
def catL (xs : List RowD) : List UInt8 := xs.flatMap rowL
def cntL (xs : List RowD) : Nat := (xs.map nL).sum
def secsL (xs : List RowD) : List (List UInt8) := xs.flatMap fun x => secs (rowL x) (nL x)
theorem catL_len (xs : List RowD) : (catL xs).length = cntL xs * 128 := by
  induction xs with
  | nil => rfl
  | cons x r ih =>
    have : catL (x :: r) = rowL x ++ catL r := rfl
    have h2 : cntL (x :: r) = nL x + cntL r := by simp [cntL]
    rw [this, List.length_append, ih, rowL_len, h2, Nat.add_mul]
theorem secsL_len (xs : List RowD) : (secsL xs).length = cntL xs := by
  induction xs with
  | nil => rfl
  | cons x r ih =>
    have : secsL (x :: r) = secs (rowL x) (nL x) ++ secsL r := rfl
    have h2 : cntL (x :: r) = nL x + cntL r := by simp [cntL]
    rw [this, List.length_append, ih, secs_len, h2]
theorem cntL_snoc (xs : List RowD) (x : RowD) : cntL (xs ++ [x]) = cntL xs + nL x := by simp [cntL]
theorem catL_snoc (xs : List RowD) (x : RowD) : catL (xs ++ [x]) = catL xs ++ rowL x := by simp [catL]
theorem cntL_le {xs : List RowD} (h : ∀ x ∈ xs, x.l.length ≤ 3000) : cntL xs ≤ xs.length * 32 := by
  induction xs with
  | nil => simp [cntL]
  | cons x r ih =>
    have h2 : cntL (x :: r) = nL x + cntL r := by simp [cntL]
    have h3 := nL_le (h x (by simp))
    have h4 := ih (fun y hy => h y (by simp [hy]))
    rw [h2, List.length_cons]
    omega
theorem secs_app {l m : List UInt8} {a b : Nat} (hl : l.length = a * 128) : secs (l ++ m) (a + b) = secs l a ++ secs m b := by
  unfold secs
  rw [List.range_add, List.map_append, List.map_map]
  congr 1
  · apply List.map_congr_left
    intro i hi
    have hi := List.mem_range.1 hi
    rw [List.drop_append_of_le_length (by omega), List.take_append_of_le_length (by rw [List.length_drop]; omega)]
  · apply List.map_congr_left
    intro i hi
    simp only [Function.comp_apply]
    have e : 128 * (a + i) = l.length + 128 * i := by omega
    rw [e, List.drop_append]
    have e2 : l.length + 128 * i - l.length = 128 * i := by omega
    rw [e2, List.drop_of_length_le (by omega)]
    rfl
theorem secs_cat : ∀ xs : List RowD, secs (catL xs) (cntL xs) = secsL xs
  | [] => rfl
  | x :: r => by
    have h1 : catL (x :: r) = rowL x ++ catL r := rfl
    have h2 : cntL (x :: r) = nL x + cntL r := by simp [cntL]
    have h3 : secsL (x :: r) = secs (rowL x) (nL x) ++ secsL r := rfl
    rw [h1, h2, h3, secs_app (rowL_len x), secs_cat r]

/-- A list of sectors, in memory, with its capacity. -/
def SecV (w : World) (v : Value) (ss : List (List UInt8)) : Prop :=
  ∃ A cap, v = .slice A ss.length cap ∧ ss.length ≤ cap ∧ cap ≤ maxLen ∧ (0 < ss.length → ∃ b off, A = some ⟨b, off, none⟩ ∧ SecsAt w b off ss)
theorem SecV.in_ {w : World} {v : Value} {ss : List (List UInt8)} (h : SecV w v ss) : SecIn w v ss := by
  obtain ⟨A, cap, rfl, _, _, h⟩ := h
  rcases Nat.eq_zero_or_pos ss.length with e | e
  · exact .inl ⟨List.eq_nil_of_length_eq_zero e, A, cap, by rw [e]⟩
  · obtain ⟨b, off, rfl, h1⟩ := h e
    exact .inr ⟨b, off, cap, rfl, e, h1⟩
theorem SecV.new {w w' : World} {v : Value} {ss : List (List UInt8)} (h : SecV w v ss) (f : Fr (fun _ => False) w w') : SecV w' v ss := by
  obtain ⟨A, cap, e, h1, h2, h3⟩ := h
  refine ⟨A, cap, e, h1, h2, fun q => ?_⟩
  obtain ⟨b, off, e1, h⟩ := h3 q
  exact ⟨b, off, e1, h.keep f (fun q => q)⟩
theorem SecsAt.drop {w : World} {b off : Nat} {ss : List (List UInt8)} (h : SecsAt w b off ss) (n : Nat) : SecsAt w b (off + n * 128) (ss.drop n) := fun i s hi => by
  rw [List.getElem?_drop] at hi
  have := h (n + i) s hi
  have e : off + (n + i) * 128 = off + n * 128 + i * 128 := by omega
  rw [e] at this
  exact this
theorem secV_own {w : World} {base : Nat} {v : Value} {xs : List RowD} (h : w.ownsRow base 37 128 v (cntL xs) (cellsB (catL xs))) : SecV w v (secsL xs) := by
  have h0 := h
  rcases h.2 with ⟨rfl, e⟩ | ⟨g, cap, cur, rfl, _, _, hn, hc, _⟩
  · refine ⟨none, 0, by rw [secsL_len, e], by rw [secsL_len, e]; exact Nat.le_refl _, Nat.zero_le _, fun q => ?_⟩
    rw [secsL_len, e] at q
    omega
  · refine ⟨_, cap, by rw [secsL_len], by rw [secsL_len]; exact hn, hc, fun _ => ⟨g, 0, rfl, fun i s hi => ?_⟩⟩
    have hlt : i < cntL xs := by
      have := (List.getElem?_eq_some_iff.1 hi).1
      rwa [secsL_len] at this
    rw [← secs_cat, secs_at _ hlt] at hi
    injection hi with hi
    subst hi
    have hlen := catL_len xs
    refine ⟨by rw [List.length_take, List.length_drop]; omega, fun j u hu => ?_⟩
    have hj : j < 128 := by
      have := (List.getElem?_eq_some_iff.1 hu).1
      rw [cellsB_len, List.length_take] at this
      omega
    have := h0.cells (g := g) rfl (i * 128 + j) u (by
      rw [← hu]
      unfold cellsB
      rw [List.getElem?_map, List.getElem?_map, List.getElem?_take, if_pos hj, List.getElem?_drop]
      have e : 128 * i + j = i * 128 + j := by omega
      rw [e])
    have e : 0 + i * 128 + j = i * 128 + j := by omega
    rw [e]
    rw [Addr.add_lit, Nat.zero_add] at this
    exact this

section
variable {ops : Array Oper} {o : Oper} {a : Act} {Q : Exit → Act → World → Prop}
theorem wpList_append_row {rest : List Oper} {w : World} (hg : o.guard = none) (s x : Operand) (hop : o.op = Op.call { callee := Callee.builtin Builtin.append, args := #[s, x], argTypes := #[27, 27] })
    (base : Nat) (v : Value) (N : Nat) (L l : List UInt8) (hown : w.ownsRow base 37 128 v N (cellsB L)) {R m c : Nat} (hb : Blk w R 37 (cellsB l).toArray) (hl : l.length = m * 128)
    (hs : a.eval s = v) (hx : a.eval x = .slice (some ⟨R, 0, none⟩) m c) (hN : N + m ≤ 1000000) (hbase : base ≤ w.heap.size)
    (hK : ∀ v' w', w'.ownsRow base 37 128 v' (N + m) (cellsB (L ++ l)) → w.grownBy w' v.ownBlock → wpList Try.prog ops Q rest (a.put o.dst v') w') : wpList Try.prog ops Q (o :: rest) a w := by
  obtain ⟨i0, hi, hz0, hz1, hz2⟩ := info_parts infoSec
  refine wpList_plain hg fun K hK' => ?_
  obtain ⟨v', w', hrun, h2, h3, _, _⟩ := run_append_own_at (P := Try.prog) w base 27 o.type 37 i0 (av (nought 128)) 128 128 Try.underlying27 hi hz0 hz1 hz2 (by simp [Value.cells, cellsB_len, nought_len]) (by omega) v N (cellsB L) hown ⟨R, 0, none⟩ m c (cellsB l)
    (by rw [cellsB_len, hl]) (fun j u hj => by
      rw [Addr.add_lit, Nat.zero_add, hb.cell j]
      simpa using hj) (cellsB_one l) (by simp only [maxLen]; omega) (by omega) hbase
  rw [← cellsB_app] at h2
  unfold Oper.wp
  simp [execOp, hop, resolve, invoke, builtin, hs, hx, hrun, Result.andThen]
  exact hK' _ _ (hK v' w' h2 h3)
end

theorem split_row {w : World} {x : RowD} (h : RowOk w x) (hm : mayT x.c x.n = true) (h3 : x.m ≤ 3000) :
    Calls Try.prog 7 #[.agg #[.int .u64 x.c, .int .i64 x.n], .slice x.A x.m x.k] w fun e w' => ∃ R, e = .returned (.tuple #[.slice (some ⟨R, 0, none⟩) (nL x) (nL x), .int .i64 0]) ∧ w.heap.size ≤ R ∧ Blk w' R 37 (cellsB (rowL x)).toArray ∧ Fr (fun _ => False) w w' := by
  have hn : x.n = (x.n.toNat : Int) := by
    unfold mayT at hm
    simp at hm
    omega
  have hl := h.rd.len
  have hrd : Rd w x.A x.l.length x.l := by
    rw [hl]
    exact h.rd
  have := split_any (cb := x.k) hrd (by omega) x.c x.n.toNat (by rw [← hn]; exact hm)
  rw [hl, ← hn] at this
  exact this
end Go.Proofs.Ytbnegiiombnnaaa
