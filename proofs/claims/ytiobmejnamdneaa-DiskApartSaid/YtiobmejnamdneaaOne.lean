/- One disk; its copies; a loss of power with a list of picks that was just made. -/
import Derived.Test.YtiobmejnamdneaaCop
namespace Go.Proofs.Ytiobmejnamdneaa
open Go.RowKit Go.Maps

/-- No sector has more versions. -/
def DS.few (d : DS) (N : Nat) : Prop := ∀ i, i < d.rd.length → (d.vs i).length ≤ N
theorem DS.most.few {d : DS} {N : Nat} (h : d.most N) : d.few N := fun i _ => h i
def One (w : World) (B g : Nat) (d : DS) : Prop := ∃ P, DAt w B P g d
section
variable {w w' : World} {B g g' : Nat} {d o : DS}
theorem Both.one (h : Both w B g g' d o) : One w B g d := by
  obtain ⟨P, Q, h1, h2, h3⟩ := h
  exact ⟨P, h1⟩
theorem One.keep (h : One w B g d) {G : Nat → Prop} (f : Fr G w w') (hG : ∀ b, B ≤ b → b < w.heap.size → ¬ G b) : One w' B g d := by
  obtain ⟨P, h1⟩ := h
  exact ⟨P, h1.keep f (fun b hb => hG b (h1.2 b hb).1 (h1.2 b hb).2)⟩
theorem One.new (h : One w B g d) (f : Fr (fun _ => False) w w') : One w' B g d := h.keep f (fun _ _ _ q => q)
theorem One.mono (h : One w B g d) {B' : Nat} (hB : B' ≤ B) : One w B' g d := by
  obtain ⟨P, h1⟩ := h
  exact ⟨P, h1.1, fun b hb => ⟨Nat.le_trans hB (h1.2 b hb).1, (h1.2 b hb).2⟩⟩
theorem one_write (h : One w B g d) {z : Int} {i : Nat} (hz : z = (i : Int)) (hi : i < d.rd.length) {s : List UInt8} (hs : s.length = 128) (hN : (d.vs i).length ≤ 10000) {r : Int} (hr : r = if d.alive then 0 else 10) :
    Calls Try.prog 16 #[.pointer (some ⟨g, 0, none⟩), .int .i64 z, av s] w fun e w' => e = .returned (.int .i64 r) ∧ One w' B g (d.write i s) ∧ Fr (fun b => B ≤ b) w w' := by
  obtain ⟨P, h1⟩ := h
  subst hz hr
  refine (awrite_any h1 hi hs hN).mono ?_
  rintro e w1 ⟨rfl, ⟨P', k1, k2⟩, f1⟩
  exact ⟨rfl, ⟨P', k1⟩, f1.mono (fun b _ hb => (h1.2 b hb).1)⟩
theorem one_write_bad (h : One w B g d) {i : Int} (hi : i < 0 ∨ (d.rd.length : Int) ≤ i) {s : List UInt8} :
    Calls Try.prog 16 #[.pointer (some ⟨g, 0, none⟩), .int .i64 i, av s] w fun e w' => e = .returned (.int .i64 2) ∧ Fr (fun _ => False) w w' := by
  obtain ⟨P, h1⟩ := h
  exact awrite_bad h1 hi
theorem one_flush (h : One w B g d) {r : Int} (hr : r = if d.alive then 0 else 10) :
    Calls Try.prog 17 #[.pointer (some ⟨g, 0, none⟩)] w fun e w' => e = .returned (.int .i64 r) ∧ One w' B g d.flushed ∧ Fr (fun b => B ≤ b) w w' := by
  obtain ⟨P, h1⟩ := h
  subst hr
  refine (aflush_any h1).mono ?_
  rintro e w1 ⟨rfl, k1, f1⟩
  exact ⟨rfl, ⟨P, k1⟩, f1.mono (fun b _ hb => (h1.2 b hb).1)⟩
theorem one_read (h : One w B g d) {z : Int} {i : Nat} (hz : z = (i : Int)) (hi : i < d.rd.length) : Calls Try.prog 19 #[.pointer (some ⟨g, 0, none⟩), .int .i64 z] w fun e w' => e = .returned (.tuple #[av (d.rd.getD i []), .int .i64 0]) ∧ Fr (fun _ => False) w w' := by
  obtain ⟨P, h1⟩ := h
  subst hz
  exact aread_any h1 hi
/-- Copies. -/
theorem acrash_few {P : Nat → Prop} (h : DAt w B P g d) {vp : Value} {picks : List Int} (hp : IntsAt w vp picks) (hpF : ∀ b, vp.ownBlock = some b → ¬ P b) (hN : d.few 1000000) :
    Calls Try.prog 18 #[.pointer (some ⟨g, 0, none⟩), vp] w fun e w' => e = .returned (.int .i64 0) ∧ DAt w' B P g (d.crash picks) ∧ Fr P w w' := by
  obtain ⟨⟨R, M, D, val, k1⟩, k2⟩ := h
  refine (dcrash_any k1 hp (fun b hb => ⟨fun e => hpF b hb (e ▸ k1.fR), fun e => hpF b hb (e ▸ k1.fM)⟩) hN).mono ?_
  rintro e w1 ⟨rfl, ⟨D', j1⟩, f1⟩
  exact ⟨rfl, DAt.of_same ⟨R, M, D', val, j1⟩ k2 f1.size, f1⟩
theorem acopy_any {P : Nat → Prop} (h : DAt w B P g d) (hN : d.few 100000) :
    Calls Try.prog 8 #[.pointer (some ⟨g, 0, none⟩)] w fun e w' => ∃ g2 o Q, e = .returned (.pointer (some ⟨g2, 0, none⟩)) ∧ DAt w' w.heap.size Q g2 o ∧ DAt w' B P g d ∧ o.As d ∧ Fr (fun _ => False) w w' := by
  obtain ⟨⟨R, M, D, val, k1⟩, k2⟩ := h
  refine (dcopy_any k1 hN).mono ?_
  rintro e w1 ⟨g2, R2, M2, D2, val2, o, rfl, h1, h2, f1⟩
  obtain ⟨Q, hQ, _⟩ := DAt.of (w := w) (w' := w1) (P := fun _ => False) (B := w.heap.size) ⟨_, _, _, _, h1.mono (fun i hi => .inr hi)⟩ (Nat.le_refl _) (fun b hb => hb.elim) f1.size
  exact ⟨g2, o, Q, rfl, hQ, DAt.new ⟨⟨R, M, D, val, k1⟩, k2⟩ f1, h2, f1⟩
theorem one_copy (h : One w B g d) (hN : d.few 100000) :
    Calls Try.prog 8 #[.pointer (some ⟨g, 0, none⟩)] w fun e w' => ∃ g2 o, e = .returned (.pointer (some ⟨g2, 0, none⟩)) ∧ Both w' B g g2 d o ∧ o.As d ∧ Fr (fun _ => False) w w' := by
  obtain ⟨P, h1⟩ := h
  refine (acopy_any h1 hN).mono ?_
  rintro e w1 ⟨g2, o, Q, rfl, k1, k2, k3, f1⟩
  exact ⟨g2, o, rfl, both_of k2 k1 h1.g_lt.2 (fun b hb => (h1.2 b hb).2), k3, f1⟩
theorem both_copy (h : Both w B g g' d o) (hN : d.few 100000) :
    Calls Try.prog 8 #[.pointer (some ⟨g, 0, none⟩)] w fun e w' => ∃ g2 o2, e = .returned (.pointer (some ⟨g2, 0, none⟩)) ∧ Both w' B g' g2 o o2 ∧ o2.As d ∧ Fr (fun _ => False) w w' := by
  obtain ⟨P, Q, h1, h2, h3⟩ := h
  refine (acopy_any h1 hN).mono ?_
  rintro e w1 ⟨g2, o2, Q2, rfl, k1, k2, k3, f1⟩
  exact ⟨g2, o2, rfl, both_of (h2.new f1) k1 h2.g_lt.2 (fun b hb => (h2.2 b hb).2), k3, f1⟩
theorem ints_one (w : World) (p : Int) : IntsAt (w.alloc (.cells #[.int .i64 p] 3)) (.slice (some ⟨w.heap.size, 0, none⟩) 1 1) [p] := by
  refine ⟨_, 1, rfl, by simp [maxLen], fun _ => ⟨w.heap.size, 0, rfl, fun i z hz => ?_⟩⟩
  have hb := Blk.new w 3 #[.int .i64 p]
  cases i with
  | zero =>
    simp at hz
    subst hz
    exact hb.cell 0
  | succ i => simp at hz
theorem acrash_new {P : Nat → Prop} (h : DAt w B P g d) (p : Int) (hN : d.few 1000000) :
    Calls Try.prog 18 #[.pointer (some ⟨g, 0, none⟩), .slice (some ⟨w.heap.size, 0, none⟩) 1 1] (w.alloc (.cells #[.int .i64 p] 3)) fun e w' => e = .returned (.int .i64 0) ∧ DAt w' B P g (d.crash [p]) ∧ Fr P w w' := by
  have fa := (Fr.refl (fun _ => False) w).alloc (.cells #[.int .i64 p] 3)
  refine (acrash_few (h.new fa) (ints_one w p) (fun b hb q => ?_) hN).mono ?_
  · have e : w.heap.size = b := by simpa [Value.ownBlock] using hb
    have := (h.2 b q).2
    omega
  · rintro e w1 ⟨rfl, k1, f1⟩
    exact ⟨rfl, k1, (fa.mono (fun _ _ q => q.elim)).trans f1 (fun _ _ q => q)⟩
theorem both_crash_new (h : Both w B g g' d o) (p : Int) (hN : d.few 1000000) :
    Calls Try.prog 18 #[.pointer (some ⟨g, 0, none⟩), .slice (some ⟨w.heap.size, 0, none⟩) 1 1] (w.alloc (.cells #[.int .i64 p] 3)) fun e w' => e = .returned (.int .i64 0) ∧ Both w' B g g' (d.crash [p]) o ∧ Fr (fun b => B ≤ b) w w' := by
  obtain ⟨P, Q, h1, h2, h3⟩ := h
  have fa := (Fr.refl (fun _ => False) w).alloc (.cells #[.int .i64 p] 3)
  refine (acrash_few (h1.new fa) (ints_one w p) (fun b hb q => ?_) hN).mono ?_
  · have e : w.heap.size = b := by simpa [Value.ownBlock] using hb
    have := (h1.2 b q).2
    omega
  · rintro e w1 ⟨rfl, k1, f1⟩
    have f2 : Fr P w w1 := (fa.mono (fun _ _ q => q.elim)).trans f1 (fun _ _ q => q)
    exact ⟨rfl, ⟨P, Q, k1, h2.keep f2 (fun b hq hp => h3 b hp hq), h3⟩, f2.mono (fun b _ hb => (h1.2 b hb).1)⟩
theorem one_crash (h : One w B g d) {vp : Value} {picks : List Int} (hp : IntsAt w vp picks) (hpF : ∀ b, vp.ownBlock = some b → b < B) (hN : d.few 1000000) :
    Calls Try.prog 18 #[.pointer (some ⟨g, 0, none⟩), vp] w fun e w' => e = .returned (.int .i64 0) ∧ One w' B g (d.crash picks) ∧ Fr (fun b => B ≤ b) w w' := by
  obtain ⟨P, h1⟩ := h
  refine (acrash_few h1 hp (fun b hb q => by have := hpF b hb; have := (h1.2 b q).1; omega) hN).mono ?_
  rintro e w1 ⟨rfl, k1, f1⟩
  exact ⟨rfl, ⟨P, k1⟩, f1.mono (fun b _ hb => (h1.2 b hb).1)⟩
end
section
variable {ops : Array Oper} {o : Oper} {a : Act} {Q : Exit → Act → World → Prop}
theorem wpList_load_want {rest : List Oper} {w : World} (hw : Region.wanted o (yielded ops a.tmps) = true) (ty : TypeId) (x : Operand) (ho : o.op = .load ty x)
    (b f : Nat) (hx : a.eval x = .pointer (some ⟨b, f, none⟩)) (cs : List Value) (d : TypeDesc) (hc : w.rangeAt b f cs) (hu : Try.prog.underlying ty = some d) (hd : d.isRow = true) (hi : (Try.prog.info? ty).map (·.size) = some cs.length)
    (h : wpList Try.prog ops Q rest (a.put o.dst (.agg cs.toArray)) w) : wpList Try.prog ops Q (o :: rest) a w :=
  BigFrame.wpList_want hw fun _ hK => wp_load_mid ty x ho b f hx cs d hc hu hd hi (hK _ _ h)
theorem wpList_append_sec {rest : List Oper} {w : World} (hg : o.guard = none) (s x : Operand) (hop : o.op = Op.call { callee := Callee.builtin Builtin.append, args := #[s, x], argTypes := #[38, 38] })
    {v : Value} {u : List (List UInt8)} {c : List UInt8} (hown : w.ownsRow 0 31 128 v u.length (cellsB u.flatten)) {b : Nat} (hb : Blk w b 31 (cellsB c).toArray) (hc : c.length = 128) (hN : u.length ≤ 100000) (hs : a.eval s = v) (hx : a.eval x = .slice (some ⟨b, 0, none⟩) 1 1)
    (hK : ∀ v' w', w'.ownsRow 0 31 128 v' (u.length + 1) (cellsB (u ++ [c]).flatten) → w.grownBy w' v.ownBlock → (v'.ownBlock = v.ownBlock ∨ v'.ownBlock = some w.heap.size) → wpList Try.prog ops Q rest (a.put o.dst v') w') : wpList Try.prog ops Q (o :: rest) a w := by
  refine wpList_plain hg fun K hK' => ?_
  obtain ⟨v', w', hrun, h2, h3, h4⟩ := append_one hown hb hc hN o.type
  unfold Oper.wp
  simp [execOp, hop, resolve, invoke, builtin, hs, hx, hrun, Result.andThen]
  exact hK' _ _ (hK v' w' h2 h3 h4)
end
/-- What a copy is like. -/
theorem DS.As.most {o d : DS} (h : o.As d) {N : Nat} (hd : d.most N) : o.most N := fun i => by
  by_cases hi : i < d.rd.length
  · rw [h.vs i hi]; exact hd i
  · rw [h.out i (by omega)]; simp
theorem DS.As.like {o d : DS} (h : o.As d) : o.Like d := ⟨h.rd, fun i hi => by
  have hi' : i < d.rd.length := by rw [← h.rd]; exact hi
  unfold DS.last
  rw [h.rd, h.vs i hi']⟩
theorem DS.As.kd {o d : DS} (h : o.As d) {r : List UInt8} {v : List (List UInt8)} (k : Kd d r v) : Kd o r v :=
  ⟨h.rd.trans k.rd, (h.vs 0 (by rw [k.rd]; simp)).trans k.vs, h.fu.trans k.fu, h.dd.trans k.dd⟩
theorem Kd.alive' {d : DS} {r : List UInt8} {v : List (List UInt8)} (h : Kd d r v) : d.alive = true := by simp [DS.alive, h.alive]
theorem Kd.write {d : DS} {r s : List UInt8} {v : List (List UInt8)} (h : Kd d r v) : Kd (d.write 0 s) s ((if v = [] then [r] else v) ++ [s]) := by
  unfold DS.write
  rw [h.alive', if_pos rfl]
  have e : d.rd.getD 0 [] = r := by rw [h.rd]; rfl
  rw [e]
  exact h.put
theorem Kd.flushed {d : DS} {r : List UInt8} {v : List (List UInt8)} (h : Kd d r v) : Kd d.flushed r [] := by
  unfold DS.flushed
  rw [h.alive', if_pos rfl]
  exact h.flush
theorem Kd.few {d : DS} {r : List UInt8} {v : List (List UInt8)} (h : Kd d r v) {N : Nat} (hv : v.length ≤ N) : d.few N := fun i hi => by
  rw [h.rd] at hi
  have e : i = 0 := by simpa using hi
  rw [e, h.vs]
  exact hv
theorem Kd.like {a b : DS} {r : List UInt8} {v : List (List UInt8)} (h : Kd a r v) (k : Kd b r v) : a.Like b := ⟨h.rd.trans k.rd.symm, fun i hi => by
  rw [h.rd] at hi
  have e : i = 0 := by simpa using hi
  subst e
  unfold DS.last
  rw [h.vs, k.vs, h.rd, k.rd]⟩
theorem Kd.crash0 {d : DS} {r : List UInt8} (h : Kd d r []) (p : List Int) : Kd (d.crash p) r [] := by
  have ho : d.openL = [] := by simp [DS.openL, h.rd, h.vs]
  have hp : d.pairs p = [] := by simp [DS.pairs, ho]
  refine ⟨?_, ?_, rfl, rfl⟩
  · show (d.falls (d.pairs p)).rd = _
    rw [hp]
    exact h.rd
  · show (d.falls (d.pairs p)).vs 0 = []
    rw [hp]
    exact h.vs
/-- What a loss of power leaves of a disk of one sector. -/
theorem crash_left {o : DS} {r : List UInt8} {u : List (List UInt8)} {k : Nat} (h : Kd o r (if k = 0 then [] else u)) (hu : u.length = k + 1) (hr : k = 0 → u = [r]) (pick : Int) : Kd (o.crash [pick]) (leftL u (pickN (k + 1) pick)) [] := by
  by_cases hk : k = 0
  · rw [if_pos hk] at h
    have := h.crash0 [pick]
    rw [hr hk, hk]
    have e : pickN (0 + 1) pick = 0 := by simp [pickN]
    rw [e]
    simpa [leftL] using this
  · rw [if_neg hk] at h
    have := h.crash (by intro q; rw [q] at hu; simp at hu) pick
    rwa [hu] at this
end Go.Proofs.Ytiobmejnamdneaa
