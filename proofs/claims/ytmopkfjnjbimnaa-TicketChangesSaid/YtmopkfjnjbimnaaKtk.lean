/- Tickets in memory; coupons, taxes, events compared. -/
import Derived.Test.YtmopkfjnjbimnaaKth
import Derived.Test.YtmopkfjnjbimnaaKst
namespace Go.Proofs.Ytmopkfjnjbimnaa
open Go.RowKit

abbrev cpC (c : CpD) : List Value := [.int .i64 c.fl, .int .i64 c.dy, .int .i64 c.va, .int .i64 c.st, .int .i64 c.ho, .int .u64 (c.nx : Nat)]
abbrev txC (x : TxD) : List Value := [.int .i64 x.co, .int .i64 x.am]
abbrev evC (x : EvT) : List Value := [.int .i64 x.dy, .int .i64 x.cp, .int .i64 x.fr, .int .i64 x.tw]
theorem cpC_len (c : CpD) : (cpC c).length = 6 := rfl
theorem txC_len (x : TxD) : (txC x).length = 2 := rfl
theorem evC_len (x : EvT) : (evC x).length = 4 := rfl
theorem cpC_one (c : CpD) : ∀ u ∈ cpC c, u.oneCell' = true := fun u hu => by
  simp only [cpC, List.mem_cons, List.not_mem_nil, or_false] at hu
  rcases hu with rfl | rfl | rfl | rfl | rfl | rfl <;> rfl
theorem txC_one (x : TxD) : ∀ u ∈ txC x, u.oneCell' = true := fun u hu => by
  simp only [txC, List.mem_cons, List.not_mem_nil, or_false] at hu
  rcases hu with rfl | rfl <;> rfl
theorem evC_one (x : EvT) : ∀ u ∈ evC x, u.oneCell' = true := fun u hu => by
  simp only [evC, List.mem_cons, List.not_mem_nil, or_false] at hu
  rcases hu with rfl | rfl | rfl | rfl <;> rfl
def noCp : CpD := ⟨0, 0, 0, 0, 0, 0⟩
def noTx : TxD := ⟨0, 0⟩
def noEv : EvT := ⟨0, 0, 0, 0⟩
theorem infoCp : (Try.prog.info? 49).map (fun i => (i.zero, i.size, i.bytes)) = some (some (.agg (cpC noCp).toArray), 6, 48) := by kernel_rfl
theorem infoTx : (Try.prog.info? 62).map (fun i => (i.zero, i.size, i.bytes)) = some (some (.agg (txC noTx).toArray), 2, 16) := by kernel_rfl
theorem infoEv : (Try.prog.info? 51).map (fun i => (i.zero, i.size, i.bytes)) = some (some (.agg (evC noEv).toArray), 4, 32) := by kernel_rfl
/-- A ticket's eleven cells. -/
abbrev tkA (t : TkD) (sc sx se : Value) : Array Value := #[.int .u64 (t.num : Nat), .string t.loc, .int .i64 t.iss, sc, sx, .int .u64 (t.prv : Nat), .int .u64 (t.org : Nat), .int .u64 (t.fst : Nat), .int .i64 t.vou, .int .i64 t.pos, se]
abbrev tkC (t : TkD) (sc sx se : Value) : Value := .agg (tkA t sc sx se)
theorem infoTk : (Try.prog.info? 27).map (·.size) = some 11 := by kernel_rfl
theorem isRowTk : ∃ d, Try.prog.underlying 27 = some d ∧ d.isRow = true := ⟨_, Try.underlying27, rfl⟩
theorem tkA_one (t : TkD) (A1 A2 A3 : Option Addr) (n1 n2 n3 c1 c2 c3 : Nat) : (tkA t (.slice A1 n1 c1) (.slice A2 n2 c2) (.slice A3 n3 c3)).all (·.oneCell') = true := by
  simp [Value.oneCell']
theorem infoTk' (t : TkD) (sc sx se : Value) : (Try.prog.info? 27).map (·.size) = some (tkA t sc sx se).size := infoTk
theorem fr_cells {F : Nat → Prop} {a : World} {b : Nat} (hb : F b ∨ a.heap.size ≤ b) : ∀ (l : List Value) (o : Nat) (w : World), Fr F a w → Fr F a (w.setCells b o l)
  | [], _, _, h => h
  | v :: l, o, w, h => fr_cells hb l (o + 1) _ (h.setCell (p := ⟨b, o, none⟩) hb v)
abbrev tkT : TypeId := 27
theorem blk_range {w : World} {g : Nat} {T : TypeId} {cs : Array Value} (h : Blk w g T cs) : w.rangeAt g 0 cs.toList := fun j v hv => by
  rw [h.cell, Nat.zero_add]
  simpa using hv
theorem blk_there {w : World} {g : Nat} {T : TypeId} {cs : Array Value} (h : Blk w g T cs) {n : Nat} (hn : n ≤ cs.size) : w.there g 0 n := fun j hj' => by
  have hj : j < cs.size := Nat.lt_of_lt_of_le hj' hn
  have h1 : w.cell? ⟨g, 0 + j, none⟩ = some cs[j] := by rw [h.cell, Nat.zero_add]; exact Array.getElem?_eq_getElem hj
  refine ⟨by rw [h1]; rfl, ?_⟩
  unfold Blk at h
  simp [World.frozen?, h]
theorem blk_frozen {w : World} {g : Nat} {t : TypeId} {cs : Array Value} (h : Blk w g t cs) (i : Nat) : w.frozen? ⟨g, i, none⟩ = false := by
  unfold Blk at h
  simp [World.frozen?, h]
theorem blk_row {w : World} {g : Nat} {T : TypeId} {cs : Array Value} (h : Blk w g T cs) {vs : Array Value} (hv : vs.size = cs.size) : Blk (w.setCells g 0 vs.toList) g T vs := by
  have key : ∀ (l : List Value) (o : Nat) (w : World) (cs : Array Value), Blk w g T cs → o + l.length ≤ cs.size → ∃ ds, Blk (w.setCells g o l) g T ds ∧ ds.size = cs.size ∧ (∀ j, j < o → ds[j]? = cs[j]?) ∧ ∀ j, ds[o + j]? = if j < l.length then l[j]? else cs[o + j]? := by
    intro l
    induction l with
    | nil => exact fun o w cs h _ => ⟨cs, h, rfl, fun _ _ => rfl, fun j => by simp⟩
    | cons x l ih =>
      intro o w cs h hl
      rw [List.length_cons] at hl
      obtain ⟨ds, d1, d2, d3, d4⟩ := ih (o + 1) _ _ (h.set_ o x) (by simpa using (by omega : o + 1 + l.length ≤ cs.size))
      refine ⟨ds, d1, by simpa using d2, fun j hj => ?_, fun j => ?_⟩
      · rw [d3 j (by omega), Array.getElem?_setIfInBounds_ne (by omega)]
      · cases j with
        | zero =>
          rw [Nat.add_zero, d3 o (by omega), Array.getElem?_setIfInBounds_self_of_lt (by omega)]
          simp
        | succ j =>
          have := d4 j
          rw [show o + 1 + j = o + (j + 1) by omega] at this
          rw [this]
          by_cases hj : j < l.length
          · simp [hj]
          · rw [if_neg hj, if_neg (by simp; omega), Array.getElem?_setIfInBounds_ne (by omega)]
  obtain ⟨ds, d1, d2, d3, d4⟩ := key vs.toList 0 w cs h (by simp; omega)
  have : ds = vs := by
    apply Array.ext_getElem?
    intro j
    have := d4 j
    rw [Nat.zero_add] at this
    rw [this]
    by_cases hj : j < vs.size
    · simp [hj]
    · rw [if_neg (by simpa using hj), Array.getElem?_eq_none (by omega), Array.getElem?_eq_none (by omega)]
  subst this
  exact d1
/-- A ticket as a value, its rows read from memory. -/
def TkV (w : World) (v : Value) (t : TkD) : Prop := ∃ sc sx se, v = tkC t sc sx se ∧ RwV w 6 cpC sc t.cps ∧ RwV w 2 txC sx t.txs ∧ RwV w 4 evC se t.his
theorem TkV.keep0 {w w' : World} {v : Value} {t : TkD} (h : TkV w v t) (f : Fr (fun _ => False) w w') : TkV w' v t := by
  obtain ⟨sc, sx, se, rfl, h1, h2, h3⟩ := h
  exact ⟨sc, sx, se, rfl, h1.keep0 f, h2.keep0 f, h3.keep0 f⟩
/-- A ticket whose rows are one's own. -/
def TkO (w : World) (B : Nat) (v : Value) (t : TkD) : Prop := ∃ sc sx se, v = tkC t sc sx se ∧ RwO w B 49 6 cpC sc t.cps ∧ RwO w B 62 2 txC sx t.txs ∧ RwO w B 51 4 evC se t.his
theorem TkO.keep0 {w w' : World} {B : Nat} {v : Value} {t : TkD} (h : TkO w B v t) (f : Fr (fun _ => False) w w') : TkO w' B v t := by
  obtain ⟨sc, sx, se, rfl, h1, h2, h3⟩ := h
  exact ⟨sc, sx, se, rfl, h1.keep0 f, h2.keep0 f, h3.keep0 f⟩
theorem TkO.rd {w : World} {B : Nat} {v : Value} {t : TkD} (h : TkO w B v t) : TkV w v t := by
  obtain ⟨sc, sx, se, rfl, h1, h2, h3⟩ := h
  exact ⟨sc, sx, se, rfl, h1.rd cpC_len, h2.rd txC_len, h3.rd evC_len⟩
theorem tk_none (w : World) (B : Nat) : TkO w B (tkC noTk (.slice none 0 0) (.slice none 0 0) (.slice none 0 0)) noTk := ⟨_, _, _, rfl, RwO.nil _ _ _ _ _, RwO.nil _ _ _ _ _, RwO.nil _ _ _ _ _⟩
theorem int_eql (k : IntKind) (T : TypeId) (hT : Try.prog.underlying T = some (.int k)) (d : Nat) (a b : Int) (w : World) : (Op.equalIn (d + 1) T (.int k a) (.int k b)).run Try.prog w = .ok (a == b) w := by
  simp only [Op.equalIn, Sem.run_bind, run_underlying hT, Result.andThen_ok]
  simp
set_option maxRecDepth 100000 in
theorem cp_equal (x y : CpD) (w : World) : (Op.equal 49 (.agg (cpC x).toArray) (.agg (cpC y).toArray)).run Try.prog w = .ok (decide (x = y)) w := by
  have h := run_equalIn_struct (P := Try.prog) w 9999 49 (cpC x).toArray (cpC y).toArray (by kernel_rfl) (by kernel_rfl)
  have hf : (Try.prog.fieldsOf 49).toList.map (fun f => (f.name, f.type, f.offset)) = [("Flight", 3, 0), ("Day", 3, 1), ("Value", 2, 2), ("Status", 41, 3), ("Holder", 3, 4), ("Next", 22, 5)] := by kernel_rfl
  obtain ⟨f0, f1, f2, f3, f4, f5, hL⟩ : ∃ f0 f1 f2 f3 f4 f5, (Try.prog.fieldsOf 49).toList = [f0, f1, f2, f3, f4, f5] := by
    have hlen : (Try.prog.fieldsOf 49).toList.length = 6 := by
      have := congrArg List.length hf
      rw [List.length_map] at this
      exact this
    generalize (Try.prog.fieldsOf 49).toList = L at hlen
    match L, hlen with
    | [a, b, c, d, e, f], _ => exact ⟨a, b, c, d, e, f, rfl⟩
  rw [hL] at h hf
  simp only [List.map_cons, List.map_nil, List.cons.injEq, Prod.mk.injEq, and_true] at hf
  obtain ⟨⟨n0, t0, o0⟩, ⟨n1, t1, o1⟩, ⟨n2, t2, o2⟩, ⟨n3, t3, o3⟩, ⟨n4, t4, o4⟩, n5, t5, o5⟩ := hf
  have px0 : (Go.part 3 (cpC x).toArray 0).run Try.prog w = .ok (.int .i64 x.fl) w := run_part_plain w (by kernel_rfl) rfl
  have py0 : (Go.part 3 (cpC y).toArray 0).run Try.prog w = .ok (.int .i64 y.fl) w := run_part_plain w (by kernel_rfl) rfl
  have q0 : (Op.equalIn 9999 3 (.int .i64 x.fl) (.int .i64 y.fl)).run Try.prog w = .ok ((x.fl : Int) == y.fl) w := int_eql .i64 3 Try.underlying3 9998 _ _ w
  have px1 : (Go.part 3 (cpC x).toArray 1).run Try.prog w = .ok (.int .i64 x.dy) w := run_part_plain w (by kernel_rfl) rfl
  have py1 : (Go.part 3 (cpC y).toArray 1).run Try.prog w = .ok (.int .i64 y.dy) w := run_part_plain w (by kernel_rfl) rfl
  have q1 : (Op.equalIn 9999 3 (.int .i64 x.dy) (.int .i64 y.dy)).run Try.prog w = .ok ((x.dy : Int) == y.dy) w := int_eql .i64 3 Try.underlying3 9998 _ _ w
  have px2 : (Go.part 2 (cpC x).toArray 2).run Try.prog w = .ok (.int .i64 x.va) w := run_part_plain w (by kernel_rfl) rfl
  have py2 : (Go.part 2 (cpC y).toArray 2).run Try.prog w = .ok (.int .i64 y.va) w := run_part_plain w (by kernel_rfl) rfl
  have q2 : (Op.equalIn 9999 2 (.int .i64 x.va) (.int .i64 y.va)).run Try.prog w = .ok ((x.va : Int) == y.va) w := int_eql .i64 2 Try.underlying2 9998 _ _ w
  have px3 : (Go.part 41 (cpC x).toArray 3).run Try.prog w = .ok (.int .i64 x.st) w := run_part_plain w (by kernel_rfl) rfl
  have py3 : (Go.part 41 (cpC y).toArray 3).run Try.prog w = .ok (.int .i64 y.st) w := run_part_plain w (by kernel_rfl) rfl
  have q3 : (Op.equalIn 9999 41 (.int .i64 x.st) (.int .i64 y.st)).run Try.prog w = .ok ((x.st : Int) == y.st) w := int_eql .i64 41 Try.underlying41 9998 _ _ w
  have px4 : (Go.part 3 (cpC x).toArray 4).run Try.prog w = .ok (.int .i64 x.ho) w := run_part_plain w (by kernel_rfl) rfl
  have py4 : (Go.part 3 (cpC y).toArray 4).run Try.prog w = .ok (.int .i64 y.ho) w := run_part_plain w (by kernel_rfl) rfl
  have q4 : (Op.equalIn 9999 3 (.int .i64 x.ho) (.int .i64 y.ho)).run Try.prog w = .ok ((x.ho : Int) == y.ho) w := int_eql .i64 3 Try.underlying3 9998 _ _ w
  have px5 : (Go.part 22 (cpC x).toArray 5).run Try.prog w = .ok (.int .u64 (x.nx : Nat)) w := run_part_plain w (by kernel_rfl) rfl
  have py5 : (Go.part 22 (cpC y).toArray 5).run Try.prog w = .ok (.int .u64 (y.nx : Nat)) w := run_part_plain w (by kernel_rfl) rfl
  have q5 : (Op.equalIn 9999 22 (.int .u64 (x.nx : Nat)) (.int .u64 (y.nx : Nat))).run Try.prog w = .ok (((x.nx : Nat) : Int) == (y.nx : Nat)) w := int_eql .u64 22 Try.underlying22 9998 _ _ w
  have h2 : (Op.eqFields 9999 (cpC x).toArray (cpC y).toArray [f0, f1, f2, f3, f4, f5]).run Try.prog w = .ok (decide (x = y)) w := by
    simp only [Op.eqFields, n0, t0, o0, n1, t1, o1, n2, t2, o2, n3, t3, o3, n4, t4, o4, n5, t5, o5, ne_eq, String.reduceEq, not_false_eq_true, if_true, Sem.run_bind, Sem.run_ite, Sem.run_pure, px0, py0, q0, px1, py1, q1, px2, py2, q2, px3, py3, q3, px4, py4, q4, px5, py5, q5, Result.andThen_ok]
    cases e0 : ((x.fl : Int) == y.fl) with
    | false =>
      have hne : x ≠ y := fun e => by subst e; simp at e0
      simp [hne]
    | true =>
      try simp only [if_true, Result.andThen_ok]
      cases e1 : ((x.dy : Int) == y.dy) with
      | false =>
        have hne : x ≠ y := fun e => by subst e; simp at e1
        simp [hne]
      | true =>
        try simp only [if_true, Result.andThen_ok]
        cases e2 : ((x.va : Int) == y.va) with
        | false =>
          have hne : x ≠ y := fun e => by subst e; simp at e2
          simp [hne]
        | true =>
          try simp only [if_true, Result.andThen_ok]
          cases e3 : ((x.st : Int) == y.st) with
          | false =>
            have hne : x ≠ y := fun e => by subst e; simp at e3
            simp [hne]
          | true =>
            try simp only [if_true, Result.andThen_ok]
            cases e4 : ((x.ho : Int) == y.ho) with
            | false =>
              have hne : x ≠ y := fun e => by subst e; simp at e4
              simp [hne]
            | true =>
              try simp only [if_true, Result.andThen_ok]
              cases e5 : (((x.nx : Nat) : Int) == (y.nx : Nat)) with
              | false =>
                have hne : x ≠ y := fun e => by subst e; simp at e5
                simp [hne]
              | true =>
                have hxy : x = y := by
                  cases x
                  cases y
                  simp at e0 e1 e2 e3 e4 e5
                  simp [e0, e1, e2, e3, e4, e5]
                  all_goals omega
                simp [hxy]
  rw [h2] at h
  exact h
theorem cp_neq (x y : CpD) (w : World) : (binOp .neq 49 (.agg (cpC x).toArray) (.agg (cpC y).toArray)).run Try.prog w = .ok (.bool (!decide (x = y))) w := by
  simp [binOp, cp_equal x y w]
set_option maxRecDepth 100000 in
theorem tx_equal (x y : TxD) (w : World) : (Op.equal 62 (.agg (txC x).toArray) (.agg (txC y).toArray)).run Try.prog w = .ok (decide (x = y)) w := by
  have h := run_equalIn_struct (P := Try.prog) w 9999 62 (txC x).toArray (txC y).toArray (by kernel_rfl) (by kernel_rfl)
  have hf : (Try.prog.fieldsOf 62).toList.map (fun f => (f.name, f.type, f.offset)) = [("Code", 3, 0), ("Amount", 2, 1)] := by kernel_rfl
  obtain ⟨f0, f1, hL⟩ : ∃ f0 f1, (Try.prog.fieldsOf 62).toList = [f0, f1] := by
    have hlen : (Try.prog.fieldsOf 62).toList.length = 2 := by
      have := congrArg List.length hf
      rw [List.length_map] at this
      exact this
    generalize (Try.prog.fieldsOf 62).toList = L at hlen
    match L, hlen with
    | [a, b], _ => exact ⟨a, b, rfl⟩
  rw [hL] at h hf
  simp only [List.map_cons, List.map_nil, List.cons.injEq, Prod.mk.injEq, and_true] at hf
  obtain ⟨⟨n0, t0, o0⟩, n1, t1, o1⟩ := hf
  have px0 : (Go.part 3 (txC x).toArray 0).run Try.prog w = .ok (.int .i64 x.co) w := run_part_plain w (by kernel_rfl) rfl
  have py0 : (Go.part 3 (txC y).toArray 0).run Try.prog w = .ok (.int .i64 y.co) w := run_part_plain w (by kernel_rfl) rfl
  have q0 : (Op.equalIn 9999 3 (.int .i64 x.co) (.int .i64 y.co)).run Try.prog w = .ok ((x.co : Int) == y.co) w := int_eql .i64 3 Try.underlying3 9998 _ _ w
  have px1 : (Go.part 2 (txC x).toArray 1).run Try.prog w = .ok (.int .i64 x.am) w := run_part_plain w (by kernel_rfl) rfl
  have py1 : (Go.part 2 (txC y).toArray 1).run Try.prog w = .ok (.int .i64 y.am) w := run_part_plain w (by kernel_rfl) rfl
  have q1 : (Op.equalIn 9999 2 (.int .i64 x.am) (.int .i64 y.am)).run Try.prog w = .ok ((x.am : Int) == y.am) w := int_eql .i64 2 Try.underlying2 9998 _ _ w
  have h2 : (Op.eqFields 9999 (txC x).toArray (txC y).toArray [f0, f1]).run Try.prog w = .ok (decide (x = y)) w := by
    simp only [Op.eqFields, n0, t0, o0, n1, t1, o1, ne_eq, String.reduceEq, not_false_eq_true, if_true, Sem.run_bind, Sem.run_ite, Sem.run_pure, px0, py0, q0, px1, py1, q1, Result.andThen_ok]
    cases e0 : ((x.co : Int) == y.co) with
    | false =>
      have hne : x ≠ y := fun e => by subst e; simp at e0
      simp [hne]
    | true =>
      try simp only [if_true, Result.andThen_ok]
      cases e1 : ((x.am : Int) == y.am) with
      | false =>
        have hne : x ≠ y := fun e => by subst e; simp at e1
        simp [hne]
      | true =>
        have hxy : x = y := by
          cases x
          cases y
          simp at e0 e1
          simp [e0, e1]
          all_goals omega
        simp [hxy]
  rw [h2] at h
  exact h
theorem tx_neq (x y : TxD) (w : World) : (binOp .neq 62 (.agg (txC x).toArray) (.agg (txC y).toArray)).run Try.prog w = .ok (.bool (!decide (x = y))) w := by
  simp [binOp, tx_equal x y w]
set_option maxRecDepth 100000 in
theorem ev_equal (x y : EvT) (w : World) : (Op.equal 51 (.agg (evC x).toArray) (.agg (evC y).toArray)).run Try.prog w = .ok (decide (x = y)) w := by
  have h := run_equalIn_struct (P := Try.prog) w 9999 51 (evC x).toArray (evC y).toArray (by kernel_rfl) (by kernel_rfl)
  have hf : (Try.prog.fieldsOf 51).toList.map (fun f => (f.name, f.type, f.offset)) = [("Day", 3, 0), ("Coupon", 3, 1), ("From", 41, 2), ("To", 41, 3)] := by kernel_rfl
  obtain ⟨f0, f1, f2, f3, hL⟩ : ∃ f0 f1 f2 f3, (Try.prog.fieldsOf 51).toList = [f0, f1, f2, f3] := by
    have hlen : (Try.prog.fieldsOf 51).toList.length = 4 := by
      have := congrArg List.length hf
      rw [List.length_map] at this
      exact this
    generalize (Try.prog.fieldsOf 51).toList = L at hlen
    match L, hlen with
    | [a, b, c, d], _ => exact ⟨a, b, c, d, rfl⟩
  rw [hL] at h hf
  simp only [List.map_cons, List.map_nil, List.cons.injEq, Prod.mk.injEq, and_true] at hf
  obtain ⟨⟨n0, t0, o0⟩, ⟨n1, t1, o1⟩, ⟨n2, t2, o2⟩, n3, t3, o3⟩ := hf
  have px0 : (Go.part 3 (evC x).toArray 0).run Try.prog w = .ok (.int .i64 x.dy) w := run_part_plain w (by kernel_rfl) rfl
  have py0 : (Go.part 3 (evC y).toArray 0).run Try.prog w = .ok (.int .i64 y.dy) w := run_part_plain w (by kernel_rfl) rfl
  have q0 : (Op.equalIn 9999 3 (.int .i64 x.dy) (.int .i64 y.dy)).run Try.prog w = .ok ((x.dy : Int) == y.dy) w := int_eql .i64 3 Try.underlying3 9998 _ _ w
  have px1 : (Go.part 3 (evC x).toArray 1).run Try.prog w = .ok (.int .i64 x.cp) w := run_part_plain w (by kernel_rfl) rfl
  have py1 : (Go.part 3 (evC y).toArray 1).run Try.prog w = .ok (.int .i64 y.cp) w := run_part_plain w (by kernel_rfl) rfl
  have q1 : (Op.equalIn 9999 3 (.int .i64 x.cp) (.int .i64 y.cp)).run Try.prog w = .ok ((x.cp : Int) == y.cp) w := int_eql .i64 3 Try.underlying3 9998 _ _ w
  have px2 : (Go.part 41 (evC x).toArray 2).run Try.prog w = .ok (.int .i64 x.fr) w := run_part_plain w (by kernel_rfl) rfl
  have py2 : (Go.part 41 (evC y).toArray 2).run Try.prog w = .ok (.int .i64 y.fr) w := run_part_plain w (by kernel_rfl) rfl
  have q2 : (Op.equalIn 9999 41 (.int .i64 x.fr) (.int .i64 y.fr)).run Try.prog w = .ok ((x.fr : Int) == y.fr) w := int_eql .i64 41 Try.underlying41 9998 _ _ w
  have px3 : (Go.part 41 (evC x).toArray 3).run Try.prog w = .ok (.int .i64 x.tw) w := run_part_plain w (by kernel_rfl) rfl
  have py3 : (Go.part 41 (evC y).toArray 3).run Try.prog w = .ok (.int .i64 y.tw) w := run_part_plain w (by kernel_rfl) rfl
  have q3 : (Op.equalIn 9999 41 (.int .i64 x.tw) (.int .i64 y.tw)).run Try.prog w = .ok ((x.tw : Int) == y.tw) w := int_eql .i64 41 Try.underlying41 9998 _ _ w
  have h2 : (Op.eqFields 9999 (evC x).toArray (evC y).toArray [f0, f1, f2, f3]).run Try.prog w = .ok (decide (x = y)) w := by
    simp only [Op.eqFields, n0, t0, o0, n1, t1, o1, n2, t2, o2, n3, t3, o3, ne_eq, String.reduceEq, not_false_eq_true, if_true, Sem.run_bind, Sem.run_ite, Sem.run_pure, px0, py0, q0, px1, py1, q1, px2, py2, q2, px3, py3, q3, Result.andThen_ok]
    cases e0 : ((x.dy : Int) == y.dy) with
    | false =>
      have hne : x ≠ y := fun e => by subst e; simp at e0
      simp [hne]
    | true =>
      try simp only [if_true, Result.andThen_ok]
      cases e1 : ((x.cp : Int) == y.cp) with
      | false =>
        have hne : x ≠ y := fun e => by subst e; simp at e1
        simp [hne]
      | true =>
        try simp only [if_true, Result.andThen_ok]
        cases e2 : ((x.fr : Int) == y.fr) with
        | false =>
          have hne : x ≠ y := fun e => by subst e; simp at e2
          simp [hne]
        | true =>
          try simp only [if_true, Result.andThen_ok]
          cases e3 : ((x.tw : Int) == y.tw) with
          | false =>
            have hne : x ≠ y := fun e => by subst e; simp at e3
            simp [hne]
          | true =>
            have hxy : x = y := by
              cases x
              cases y
              simp at e0 e1 e2 e3
              simp [e0, e1, e2, e3]
              all_goals omega
            simp [hxy]
  rw [h2] at h
  exact h
theorem ev_neq (x y : EvT) (w : World) : (binOp .neq 51 (.agg (evC x).toArray) (.agg (evC y).toArray)).run Try.prog w = .ok (.bool (!decide (x = y))) w := by
  simp [binOp, ev_equal x y w]
end Go.Proofs.Ytmopkfjnjbimnaa
