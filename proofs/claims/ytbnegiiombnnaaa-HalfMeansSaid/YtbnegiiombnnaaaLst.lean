/- Rows of bytes, one in a block of its own each: [][]byte. -/
import Derived.Test.YtbnegiiombnnaaaRmn
import Derived.Test.YtbnegiiombnnaaaRow
import Derived.Deep.AppendLies
namespace Go.Proofs.Ytbnegiiombnnaaa
open Go.RowKit

theorem infoBs : (Try.prog.info? 25).map (fun i => (i.zero, i.size, i.bytes)) = some (some (.slice none 0 0), 1, 24) := by kernel_rfl
theorem own_of_blk {w : World} {base R n size : Nat} {e : TypeId} {l : List Value} (h : Blk w R e l.toArray) (hb : base ≤ R) (hl : l.length = n * size) (hn : n ≤ maxLen) : w.ownsRow base e size (.slice (some ⟨R, 0, none⟩) n n) n l :=
  ⟨hl, .inr ⟨R, n, l.toArray, rfl, hb, h, Nat.le_refl _, hn, by simp [hl], by simp [← hl]⟩⟩
theorem bytes_own {w : World} {base R n : Nat} {l : List UInt8} (h : Blk w R 5 (cellsB l).toArray) (hb : base ≤ R) (hl : l.length = n) (hn : n ≤ maxLen) : w.ownsRow base 5 1 (.slice (some ⟨R, 0, none⟩) n n) l.length (cellsB l) := by
  rw [hl]
  exact own_of_blk h hb (by rw [cellsB_len, hl, Nat.mul_one]) hn
theorem bytes_rd {w : World} {R n : Nat} {t : TypeId} {l : List UInt8} (h : Blk w R t (cellsB l).toArray) (hl : l.length = n) (hn : 0 < n) : Rd w (some ⟨R, 0, none⟩) n l := by
  subst hl
  exact h.rd hn
theorem own_le {w : World} {base e size n m c : Nat} {A : Option Addr} {xs : List Value} (h : w.ownsRow base e size (.slice A n c) m xs) : n ≤ c ∧ c ≤ maxLen := by
  obtain ⟨A', c', e0, h1, h2⟩ := own_slice h
  injection e0 with _ e1 e2
  subst e1 e2
  exact ⟨h1, h2⟩
theorem bytes_rd2 {w : World} {base e n k c : Nat} {A : Option Addr} {l : List UInt8} (h : w.ownsRow base e 1 (.slice A k c) n (cellsB l)) (hl : l.length = k) : Rd w A k l := by
  have hn : n = k := by have := h.1; rw [cellsB_len] at this; omega
  subst hn
  exact Rd.of_own h
theorem own_none {w : World} {base e size n m c : Nat} {A : Option Addr} {xs : List Value} (h : w.ownsRow base e size (.slice A n c) m xs) : A = none → c = 0 := by
  rintro rfl
  rcases h.2 with ⟨q, _⟩ | ⟨g, cap, cur, q, _⟩
  · injection q
  · injection q with q _ _
    cases q
theorem one_byte (w : World) (t : TypeId) (c : UInt8) : Rd (w.alloc (.cells #[.int .u8 (c.toNat : Int)] t)) (some ⟨w.heap.size, 0, none⟩) 1 [c] := by
  refine ⟨rfl, fun _ => ⟨_, rfl, fun j d hj => ?_⟩⟩
  cases j with
  | zero =>
    simp at hj
    subst hj
    exact (Blk.new w t #[.int .u8 (c.toNat : Int)]).cell 0
  | succ j => simp at hj

/-- Values that are rows of bytes, from the block base on, in none that is 'own'. -/
def Els (w : World) (base : Nat) (own : Option Nat) (vs : List Value) (ls : List (List UInt8)) : Prop :=
  vs.length = ls.length ∧ ∀ (i : Nat) l, ls[i]? = some l → ∃ A c, vs[i]? = some (.slice A l.length c) ∧ l.length ≤ c ∧ Rd w A l.length l ∧ (A = none → c = 0) ∧ ∀ ad, A = some ad → base ≤ ad.block ∧ own ≠ some ad.block
def Lst (w : World) (base : Nat) (v : Value) (ls : List (List UInt8)) : Prop := ∃ vs, w.ownsRow base 25 1 v ls.length vs ∧ Els w base v.ownBlock vs ls

theorem Els.keep {F : Nat → Prop} {w w' : World} {base : Nat} {own : Option Nat} {vs : List Value} {ls : List (List UInt8)} (h : Els w base own vs ls) (f : Fr F w w') (hF : ∀ j, base ≤ j → some j ≠ own → ¬ F j) : Els w' base own vs ls := by
  refine ⟨h.1, fun i l hi => ?_⟩
  obtain ⟨A, c, h1, h2, h3, h5, h4⟩ := h.2 i l hi
  exact ⟨A, c, h1, h2, h3.keep f (fun ad e => hF _ (h4 ad e).1 (fun q => (h4 ad e).2 q.symm)), h5, h4⟩
theorem Lst.keep {F : Nat → Prop} {w w' : World} {base : Nat} {v : Value} {ls : List (List UInt8)} (h : Lst w base v ls) (f : Fr F w w') (hF : ∀ j, base ≤ j → ¬ F j) : Lst w' base v ls := by
  obtain ⟨vs, h1, h2⟩ := h
  exact ⟨vs, own_keep h1 f (fun k hk => hF _ (h1.lt k hk).1), h2.keep f (fun j hj _ => hF j hj)⟩
theorem Lst.new {w w' : World} {base : Nat} {v : Value} {ls : List (List UInt8)} (h : Lst w base v ls) (f : Fr (fun _ => False) w w') : Lst w' base v ls := h.keep f (fun _ _ q => q)
theorem Lst.nil (w : World) (base : Nat) : Lst w base (.slice none 0 0) [] := ⟨[], World.ownsRow_nil _ _ _ _, rfl, fun i l hi => by simp at hi⟩
theorem Lst.form {w : World} {base : Nat} {v : Value} {ls : List (List UInt8)} (h : Lst w base v ls) : ∃ A c, v = .slice A ls.length c ∧ ls.length ≤ c ∧ c ≤ maxLen := by
  obtain ⟨vs, h1, _⟩ := h
  exact own_slice h1
theorem Els.app {w : World} {base : Nat} {own : Option Nat} {vs us : List Value} {ls ms : List (List UInt8)} (h : Els w base own vs ls) (k : Els w base own us ms) : Els w base own (vs ++ us) (ls ++ ms) := by
  refine ⟨by simp [h.1, k.1], fun i l hi => ?_⟩
  by_cases hlt : i < ls.length
  · rw [List.getElem?_append_left hlt] at hi
    rw [List.getElem?_append_left (by rw [h.1]; exact hlt)]
    exact h.2 i l hi
  · rw [List.getElem?_append_right (by omega)] at hi
    rw [List.getElem?_append_right (by rw [h.1]; omega), h.1]
    exact k.2 _ l hi
/-- None of them is empty. -/
def Full (ls : List (List UInt8)) : Prop := ∀ l ∈ ls, 0 < l.length
theorem Els.own {w : World} {base : Nat} {own own' : Option Nat} {vs : List Value} {ls : List (List UInt8)} (h : Els w base own vs ls) (ho : own' = own ∨ own' = some w.heap.size) (hz : Full ls) : Els w base own' vs ls := by
  refine ⟨h.1, fun i l hi => ?_⟩
  obtain ⟨A, c, h1, h2, h3, h5, h4⟩ := h.2 i l hi
  refine ⟨A, c, h1, h2, h3, h5, fun ad e => ⟨(h4 ad e).1, ?_⟩⟩
  rcases ho with rfl | rfl
  · exact (h4 ad e).2
  · intro q
    obtain ⟨ad', e', hlt⟩ := h3.lt (hz l (List.mem_of_getElem? hi))
    rw [e] at e'
    injection e' with e'
    subst e'
    injection q with q
    omega

theorem Lst.mono {w : World} {base base' : Nat} {v : Value} {ls : List (List UInt8)} (h : Lst w base v ls) (hb : base' ≤ base) : Lst w base' v ls := by
  obtain ⟨vs, h1, h2⟩ := h
  refine ⟨vs, ⟨h1.1, ?_⟩, h2.1, fun i l hi => ?_⟩
  · rcases h1.2 with q | ⟨g, cap, cur, e, hg, rest⟩
    · exact .inl q
    · exact .inr ⟨g, cap, cur, e, Nat.le_trans hb hg, rest⟩
  · obtain ⟨A, c, k1, k2, k3, k5, k4⟩ := h2.2 i l hi
    exact ⟨A, c, k1, k2, k3, k5, fun ad e => ⟨Nat.le_trans hb (k4 ad e).1, (k4 ad e).2⟩⟩
theorem Lst.lt {w : World} {base : Nat} {v : Value} {ls : List (List UInt8)} (h : Lst w base v ls) : ∀ k, v.ownBlock = some k → base ≤ k ∧ k < w.heap.size := by
  obtain ⟨vs, h1, h2⟩ := h
  exact h1.lt
/-- Rows of one's own, of unlike types, lie in unlike blocks. -/
theorem own_apart2 {w : World} {base base' e e' size size' n n' : Nat} {v v' : Value} {xs xs' : List Value} (h : w.ownsRow base e size v n xs) (k : w.ownsRow base' e' size' v' n' xs') (hne : e ≠ e') : v.ownBlock = none ∨ v.ownBlock ≠ v'.ownBlock := by
  rcases h.2 with ⟨rfl, _⟩ | ⟨g, cap, cur, rfl, _, hg, _⟩
  · exact .inl rfl
  · right
    rcases k.2 with ⟨rfl, _⟩ | ⟨g', cap', cur', rfl, _, hg', _⟩
    · simp [Value.ownBlock]
    · intro q
      have : g = g' := by simpa [Value.ownBlock] using q
      subst this
      exact Blk.ne_ (t := e) hg hg' hne rfl
theorem Lst.apart {w : World} {base base' size n : Nat} {e : TypeId} {v v' : Value} {ls : List (List UInt8)} {xs : List Value} (k : Lst w base' v' ls) (h : w.ownsRow base e size v n xs) (hne : e ≠ 25) : v.ownBlock = none ∨ v.ownBlock ≠ v'.ownBlock := by
  obtain ⟨vs, h1, _⟩ := k
  exact own_apart2 h h1 hne
/-- 's[i:j]' of bytes. -/
theorem slice_part {w : World} {A : Option Addr} {n c : Nat} {l : List UInt8} (hr : Rd w A n l) (hnc : n ≤ c) (i j : Nat) (hij : i < j) (hj : j ≤ n) :
    ∃ ad, A = some ad ∧ (∀ W, (Instr.slice 25 (.slice A n c) (some (.int .i64 (i : Int))) (some (.int .i64 (j : Int))) none).run Try.prog W = .ok (.slice (some (ad.add i)) (j - i) (c - i)) W) ∧ Rd w (some (ad.add i)) (j - i) ((l.drop i).take (j - i)) := by
  have h1 := (hr.drop (k := i) (by omega) hnc).take (k := j - i) (by omega)
  obtain ⟨ad, c0, rfl, _, _⟩ := hr.at_ (k := i) (by omega)
  rw [if_neg (by omega)] at h1
  refine ⟨ad, rfl, fun W => ?_, h1⟩
  rw [run_slice_lh W 25 (some ad) n c (by kernel_rfl) .i64 .i64 i j (by omega) (by omega) (by omega)]
  have hz : ∀ w, (sizeOf (Try.prog.elem 25)).run Try.prog w = .ok 1 w := fun w => by
    obtain ⟨i0, hi, hz0, hz1, hz2⟩ := info_parts infoU8
    have e : Try.prog.elem 25 = 5 := by kernel_rfl
    rw [e]
    simp [sizeOf, typeInfo, hi, hz1]
  rw [hz]
  have : (((j : Int) - (i : Int)).toNat) = j - i := by omega
  have hci : c ≠ i := by omega
  simp [Result.andThen, sliced, this, hci]

theorem Els.one {w : World} {base : Nat} {own : Option Nat} {A : Option Addr} {c k : Nat} {l : List UInt8} (hk : l.length = k) (hc : k ≤ c) (hr : Rd w A k l) (h5 : A = none → c = 0) (h4 : ∀ ad, A = some ad → base ≤ ad.block ∧ own ≠ some ad.block) : Els w base own [.slice A k c] [l] := by
  subst hk
  refine ⟨rfl, fun i l' hi => ?_⟩
  cases i with
  | zero =>
    simp at hi
    subst hi
    exact ⟨A, c, rfl, hc, hr, h5, h4⟩
  | succ i => simp at hi

section
variable {ops : Array Oper} {o : Oper} {a : Act} {Q : Exit → Act → World → Prop}
theorem run_append_lst {w : World} (ty : TypeId) {base : Nat} {v : Value} {ls ms : List (List UInt8)} {us : List Value} (hL : Lst w base v ls) {B m : Nat} (hB : Blk w B 25 us.toArray) (hE : Els w base v.ownBlock us ms) (hm : ms.length = m) (c : Nat)
    (hz1 : Full ls) (hz2 : Full ms) (hlen : ls.length + m ≤ 1000000) (hbase : base ≤ w.heap.size) :
    ∃ v' w', (Builtin.append_ #[52, 52] ty #[v, .slice (some ⟨B, 0, none⟩) m c]).run Try.prog w = .ok v' w' ∧ Lst w' base v' (ls ++ ms) ∧ w.grownBy w' v.ownBlock ∧ (v'.ownBlock = v.ownBlock ∨ v'.ownBlock = some w.heap.size) := by
  obtain ⟨i0, hi, hq0, hq1, hq2⟩ := info_parts infoBs
  obtain ⟨vs, h1, h2⟩ := hL
  obtain ⟨v', w', hrun, g2, g3, _, g5⟩ := run_append_own_at (P := Try.prog) w base 52 ty 25 i0 (.slice none 0 0) 1 24 Try.underlying52 hi hq0 hq1 hq2 (by rfl) (by omega) v ls.length vs h1 ⟨B, 0, none⟩ m c us
    (by rw [hE.1, hm]; omega) (fun j u hj => by
      rw [Addr.add_lit, Nat.zero_add, hB.cell j]
      simpa using hj) (fun u hu => by
      obtain ⟨j, hj⟩ := List.getElem?_of_mem hu
      have hlt : j < ms.length := by rw [← hE.1]; exact (List.getElem?_eq_some_iff.1 hj).1
      obtain ⟨A, c', h3, _⟩ := hE.2 j _ (List.getElem?_eq_getElem hlt)
      rw [hj] at h3
      injection h3 with h3
      rw [h3]
      rfl) (by simp only [maxLen]; omega) (by omega) hbase
  have fr : Fr (fun k => some k = v.ownBlock) w w' := (Fr.refl _ w).grown g3 (fun k hk => .inl hk.symm)
  refine ⟨v', w', hrun, ⟨vs ++ us, by rw [List.length_append, hm]; exact g2, ?_⟩, g3, g5⟩
  have e1 := (h2.app hE)
  have e2 : Els w base v'.ownBlock (vs ++ us) (ls ++ ms) := e1.own g5 (fun l hl => by
    rcases List.mem_append.1 hl with q | q
    · exact hz1 l q
    · exact hz2 l q)
  refine ⟨e1.1, fun i l hi => ?_⟩
  obtain ⟨A, c', h3, h4, h5, h7, h6⟩ := e1.2 i l hi
  obtain ⟨A2, c2, k3, _, _, _, k6⟩ := e2.2 i l hi
  rw [h3] at k3
  injection k3 with k3
  injection k3 with k31 _ _
  subst k31
  exact ⟨A, c', h3, h4, h5.keep fr (fun ad e q => (h6 ad e).2 q.symm), h7, k6⟩
theorem wpList_append_lst {rest : List Oper} {w : World} (hg : o.guard = none) (s x : Operand) (hop : o.op = Op.call { callee := Callee.builtin Builtin.append, args := #[s, x], argTypes := #[52, 52] })
    {base : Nat} {v : Value} {ls ms : List (List UInt8)} {us : List Value} (hL : Lst w base v ls) {B m : Nat} (hB : Blk w B 25 us.toArray) (hE : Els w base v.ownBlock us ms) (hm : ms.length = m) (c : Nat) (hs : a.eval s = v) (hx : a.eval x = .slice (some ⟨B, 0, none⟩) m c)
    (hz1 : Full ls) (hz2 : Full ms) (hlen : ls.length + m ≤ 1000000) (hbase : base ≤ w.heap.size)
    (hK : ∀ v' w', Lst w' base v' (ls ++ ms) → w.grownBy w' v.ownBlock → (v'.ownBlock = v.ownBlock ∨ v'.ownBlock = some w.heap.size) → wpList Try.prog ops Q rest (a.put o.dst v') w') : wpList Try.prog ops Q (o :: rest) a w := by
  refine wpList_plain hg fun K hK' => ?_
  obtain ⟨v', w', hrun, h2, h3, h4⟩ := run_append_lst o.type hL hB hE hm c hz1 hz2 hlen hbase
  unfold Oper.wp
  simp [execOp, hop, resolve, invoke, builtin, hs, hx, hrun, Result.andThen]
  exact hK' _ _ (hK v' w' h2 h3 h4)
theorem step_append_bytes {w : World} {K : Act → World → Prop} {E : Prop} (hg : o.guard = none) (s x : Operand) (hop : o.op = Op.call { callee := Callee.builtin Builtin.append, args := #[s, x], argTypes := #[25, 25] })
    (base : Nat) (v : Value) (xs l : List UInt8) (hs : a.eval s = v) (hown : w.ownsRow base 5 1 v xs.length (cellsB xs)) (A : Option Addr) (m c : Nat) (hx : a.eval x = .slice A m c) (hr : Rd w A m l)
    (hb : xs.length + m ≤ 140737488355328) (hbase : base ≤ w.heap.size)
    (hK : ∀ v' w', w'.ownsRow base 5 1 v' (xs ++ l).length (cellsB (xs ++ l)) → w.grownBy w' v.ownBlock → (v'.ownBlock = v.ownBlock ∨ v'.ownBlock = some w.heap.size) → K (a.put o.dst v') w') : if Region.wanted o (yielded ops a.tmps) = true then Oper.wp Try.prog o a w K Q else E := by
  obtain ⟨i0, hi, hz0, hz1, hz2⟩ := info_parts infoU8
  have hw : Region.wanted o (yielded ops a.tmps) = true := by simp [Region.wanted, hg]
  rw [if_pos hw]
  obtain ⟨v', w', hrun, h2, h3, h4⟩ := run_append_bytes (P := Try.prog) w base 25 o.type 5 i0 (.int .u8 0) Try.underlying25 hi hz0 hz1 hz2 rfl v xs l hown A m c hr hb hbase
  unfold Oper.wp
  simp [execOp, hop, resolve, invoke, builtin, hs, hx, hrun, Result.andThen]
  exact hK v' w' h2 h3 h4
theorem wpList_more {rest : List Oper} {w : World} (hg : o.guard = none) (s x : Operand) (hop : o.op = Op.call { callee := Callee.builtin Builtin.append, args := #[s, x], argTypes := #[25, 25] })
    (base : Nat) (v : Value) (xs l : List UInt8) (hs : a.eval s = v) (hown : w.ownsRow base 5 1 v xs.length (cellsB xs)) (A : Option Addr) (m c : Nat) (hx : a.eval x = .slice A m c) (hr : Rd w A m l)
    (hb : xs.length + m ≤ 140737488355328) (hbase : base ≤ w.heap.size)
    (hK : ∀ v' w', w'.ownsRow base 5 1 v' (xs ++ l).length (cellsB (xs ++ l)) → w.grownBy w' v.ownBlock → (v'.ownBlock = v.ownBlock ∨ v'.ownBlock = some w.heap.size) → wpList Try.prog ops Q rest (a.put o.dst v') w') : wpList Try.prog ops Q (o :: rest) a w := by
  obtain ⟨i0, hi, hz0, hz1, hz2⟩ := info_parts infoU8
  exact wpList_append_bytes w hg s x 25 hop base 5 i0 (.int .u8 0) Try.underlying25 hi hz0 hz1 hz2 rfl v xs l hs hown A m c hx hr hb hbase hK
end
end Go.Proofs.Ytbnegiiombnnaaa
