/- wal: changes in memory. -/
import Derived.Test.YtjdbgojnpnlblaaGreatVre
import Derived.Test.YtjdbgojnpnlblaaGreatW9
namespace Go.Proofs.YtjdbgojnpnlblaaGreat
open Go.RowKit

/-- A change: its number, its page's bytes. -/
structure Chg where
  n : Int
  p : List UInt8
  deriving DecidableEq
abbrev chC (x : Chg) : List Value := .int .i64 x.n :: cellsB x.p
theorem chC_len {x : Chg} (h : x.p.length = 512) : (chC x).length = 513 := by simp [chC, cellsB_len, h]
theorem chC_one (x : Chg) : ∀ u ∈ chC x, u.oneCell' = true := fun u hu => by
  rcases List.mem_cons.1 hu with rfl | hu
  · rfl
  · exact cellsB_one _ u hu
abbrev zChg : Chg := ⟨0, nought 512⟩
theorem zeroPage (w : World) : (zeroValue 117).run Tryz.prog w = .ok (av (nought 512)) w := by
  have h : (Tryz.prog.info? 117).bind (·.zero) = some (av (nought 512)) := by kernel_rfl
  cases hi : Tryz.prog.info? 117 with
  | none => rw [hi] at h; cases h
  | some i =>
    rw [hi] at h
    simp only [Option.bind_some] at h
    simp [zeroValue, typeInfo, hi, h]
theorem zeroChg (w : World) : (zeroValue 120).run Tryz.prog w = .ok (.agg (chC zChg).toArray) w := by
  have h : (Tryz.prog.info? 120).bind (·.zero) = some (.agg (chC zChg).toArray) := by kernel_rfl
  cases hi : Tryz.prog.info? 120 with
  | none => rw [hi] at h; cases h
  | some i =>
    rw [hi] at h
    simp only [Option.bind_some] at h
    simp [zeroValue, typeInfo, hi, h]
theorem infoPg : (Tryz.prog.info? 117).map (fun i => (i.zero, i.size, i.bytes)) = some (some (av (nought 512)), 512, 512) := by kernel_rfl
theorem infoChg : (Tryz.prog.info? 120).map (fun i => (i.zero, i.size, i.bytes)) = some (some (.agg (chC zChg).toArray), 513, 520) := by kernel_rfl
theorem infoPage : (Tryz.prog.info? 117).map (·.size) = some 512 := by kernel_rfl
theorem infoChange : (Tryz.prog.info? 120).map (·.size) = some 513 := by kernel_rfl
theorem infoI64 : (Tryz.prog.info? 3).map (fun i => (i.zero, i.size, i.bytes)) = some (some (.int .i64 0), 1, 8) := by kernel_rfl
theorem fold_set_at : ∀ (l : List Value) (o k : Nat) (acc : Array Value), o + k + l.length ≤ acc.size → ((l.zipIdx k).foldl (fun cs (x : Value × Nat) => cs.setIfInBounds (o + x.2) x.1) acc) = (acc.toList.take (o + k) ++ (l ++ acc.toList.drop (o + k + l.length))).toArray
  | [], o, k, acc, _ => by simp
  | x :: l, o, k, acc, h => by
    simp only [List.length_cons] at h
    rw [List.zipIdx_cons, List.foldl_cons, fold_set_at l o (k + 1) _ (by simp; omega)]
    simp only [Array.toList_setIfInBounds]
    have h1 : o + k < acc.toList.length := by simp; omega
    have e0 : o + (k + 1) = o + k + 1 := by omega
    rw [e0]
    have e1 : (acc.toList.set (o + k) x).take (o + k + 1) = acc.toList.take (o + k) ++ [x] := by
      rw [List.take_set, List.take_succ_eq_append_getElem h1]
      have h4 : (acc.toList.take (o + k)).length = o + k := by rw [List.length_take]; omega
      rw [List.set_append_right _ _ (by omega), h4, Nat.sub_self]
      rfl
    have e2 : (acc.toList.set (o + k) x).drop (o + k + 1 + l.length) = acc.toList.drop (o + k + (l.length + 1)) := by
      rw [List.drop_set_of_lt (by omega)]
      congr 1
      omega
    rw [e1, e2]
    simp
theorem fill_cons {place : Nat → Option (Nat × Nat)} {cells : Array Value} {i off size : Nat} {v : Value} {rest : List (Nat × Value)} (h : place i = some (off, size)) (h1 : v.cells.size = size) (h2 : off + size ≤ cells.size) :
    Instr.fill place cells ((i, v) :: rest) = Instr.fill place (v.cells.zipIdx.foldl (fun cs (x : Value × Nat) => cs.setIfInBounds (off + x.2) x.1) cells) rest := by
  conv => lhs; unfold Instr.fill
  rw [h]
  simp only [h1]
  rw [if_neg (by simp; omega)]
theorem fill_head {n : Int} {ds base : List Value} {place : Nat → Option (Nat × Nat)} (h0 : place 0 = some (0, 1)) (h1 : place 1 = some (1, 512)) (hd : ds.length = 512) (hb : base.length = 513) : Instr.fill place base.toArray [(0, .int .i64 n), (1, .agg ds.toArray)] = some (.int .i64 n :: ds).toArray := by
  have h2 := fold_set_at ds 1 0 (.int .i64 n :: base.drop 1).toArray (by simp; omega)
  rw [fill_cons h0 rfl (by simp; omega)]
  have e2 : (Array.foldl (fun cs (x : Value × Nat) => cs.setIfInBounds (0 + x.2) x.1) base.toArray (Value.int .i64 n).cells.zipIdx) = (.int .i64 n :: base.drop 1).toArray := by
    cases base with
    | nil => simp at hb
    | cons b bs => simp [Value.cells]
  rw [e2, fill_cons h1 (by simpa [Value.cells] using hd) (by simp; omega)]
  have e4 : (Value.agg ds.toArray).cells = ds.toArray := rfl
  rw [e4, ← Array.foldl_toList, Array.toList_zipIdx, List.toList_toArray, h2]
  have e3 : (Value.int .i64 n :: base.drop 1).drop (1 + 0 + ds.length) = [] := List.drop_eq_nil_of_le (by simp; omega)
  simp only [List.toList_toArray, e3, List.append_nil]
  rfl
theorem fill_chg (x : Chg) (hp : x.p.length = 512) : Instr.fill (fun i => ([(0, 1), (1, 512)] : List (Nat × Nat))[i]?) (Value.agg (chC zChg).toArray).cells [(0, .int .i64 x.n), (1, av x.p)] = some (chC x).toArray :=
  fill_head rfl rfl (by rw [cellsB_len, hp]) (by simp [cellsB_len, nought_len])
theorem build_chg (x : Chg) (hp : x.p.length = 512) (w : World) : (Instr.build 120 #[(0, .int .i64 x.n), (1, av x.p)]).run Tryz.prog w = .ok (.agg (chC x).toArray) w := by
  unfold Instr.build
  obtain ⟨i0, hi, hz0, hz1, hz2⟩ := info_parts infoPg
  obtain ⟨i1, hj, hj0, hj1, hj2⟩ := info_parts infoI64
  have hf := fill_chg x hp
  rw [Sem.run_bind, zeroChg]
  simp [run_underlying Tryz.underlying120, sizeOf, typeInfo, hi, hj, hj1, hz1]
  rw [hf]
  rfl

/-- A record, in memory. -/
def RecAt (w : World) (b off : Nat) (r : List Chg) : Prop := ∀ i x, r[i]? = some x → x.p.length = 512 ∧ w.rangeAt b (off + i * 513) (chC x)
theorem RecAt.keep {F : Nat → Prop} {w w' : World} {b off : Nat} {r : List Chg} (h : RecAt w b off r) (hf : Fr F w w') (hF : ¬ F b) : RecAt w' b off r := fun i s hi => ⟨(h i s hi).1, fun j v hv => by
  have h1 := (h i s hi).2 j v hv
  exact (hf.cell (World.block_lt_of_cell? w _ h1) hF).trans h1⟩
def RcV (w : World) (v : Value) (r : List Chg) : Prop :=
  ∃ A cap, v = .slice A r.length cap ∧ r.length ≤ cap ∧ cap ≤ maxLen ∧ (0 < r.length → ∃ b off, A = some ⟨b, off, none⟩ ∧ RecAt w b off r)
theorem RcV.keep {F : Nat → Prop} {w w' : World} {v : Value} {r : List Chg} (h : RcV w v r) (f : Fr F w w') (hF : ∀ b, v.ownBlock = some b → ¬ F b) : RcV w' v r := by
  obtain ⟨A, cap, rfl, h1, h2, h3⟩ := h
  refine ⟨A, cap, rfl, h1, h2, fun q => ?_⟩
  obtain ⟨b, off, rfl, h⟩ := h3 q
  exact ⟨b, off, rfl, h.keep f (hF b rfl)⟩
theorem RcV.new {w w' : World} {v : Value} {r : List Chg} (h : RcV w v r) (f : Fr (fun _ => False) w w') : RcV w' v r := h.keep f (fun _ _ q => q)
theorem RcV.nil (w : World) : RcV w (.slice none 0 0) [] := ⟨none, 0, rfl, Nat.le_refl _, Nat.zero_le _, fun h => absurd h (by simp)⟩
/-- So many changes made. -/
def zRec (n : Nat) : List Chg := List.replicate n zChg
def recC (r : List Chg) : List Value := (r.map chC).flatten
theorem recC_len {r : List Chg} (h : ∀ x ∈ r, x.p.length = 512) : (recC r).length = r.length * 513 := by
  unfold recC
  induction r with
  | nil => rfl
  | cons x r ih =>
    rw [List.map_cons, List.flatten_cons, List.length_append, chC_len (h x (by simp)), ih (fun y hy => h y (by simp [hy])), List.length_cons]
    omega
theorem make_changes (W : World) (N : Nat) (hN : N ≤ 1000000) : ∃ cs, (Instr.makeSlice 60 (.int .i64 (N : Nat)) (.int .i64 (N : Nat))).run Tryz.prog W = .ok (.slice (some ⟨W.heap.size, 0, none⟩) N N) (W.alloc (.cells cs 120)) ∧ cs.size = N * 513 := by
  obtain ⟨i0, hi, hz0, hz1, hz2⟩ := info_parts infoChg
  have h := run_make (P := Tryz.prog) W 60 120 i0 (.agg (chC zChg).toArray) Tryz.underlying60 hi hz0 .i64 .i64 N N (by omega) (by omega) (by rw [hz2]; omega) (by omega)
  rw [hz1, Int.toNat_natCast] at h
  exact ⟨_, h, by simp [madeCells]⟩
/-- What a block with a row of changes has, when one more is laid. -/
theorem Blk.range_set {w : World} {b : Nat} {t : TypeId} {cs : Array Value} (h : Blk w b t cs) {vs : List Value} {o : Nat} (hn : o + vs.length ≤ cs.size) : ∃ cs', Blk (w.setCells b o vs) b t cs' ∧ cs'.size = cs.size ∧ (∀ j v, vs[j]? = some v → cs'[o + j]? = some v) ∧ ∀ i, i < o ∨ o + vs.length ≤ i → cs'[i]? = cs[i]? := by
  induction vs generalizing w o cs with
  | nil => exact ⟨cs, h, rfl, fun j v hv => by simp at hv, fun i _ => rfl⟩
  | cons u us ih =>
    have h1 := h.set_ o u
    simp only [List.length_cons] at hn
    obtain ⟨cs', q1, q2, q3, q4⟩ := ih h1 (o := o + 1) (by simp; omega)
    refine ⟨cs', q1, by rw [q2]; simp, fun j v hv => ?_, fun i hi => ?_⟩
    · cases j with
      | zero =>
        simp at hv
        subst hv
        rw [Nat.add_zero, q4 o (.inl (by omega)), Array.getElem?_setIfInBounds, if_pos rfl, if_pos (by omega)]
      | succ j =>
        simp at hv
        have := q3 j v hv
        rwa [show o + 1 + j = o + (j + 1) by omega] at this
    · simp only [List.length_cons] at hi
      rw [q4 i (by omega)]
      rw [Array.getElem?_setIfInBounds]
      rw [if_neg (by omega)]
end Go.Proofs.YtjdbgojnpnlblaaGreat
