/- W8: laid together out of Dat. -/
import Derived.Test.YtjdbgojnpnlblaaGreatWc
namespace Go.Proofs.YtjdbgojnpnlblaaGreat
open Go.RowKit Go.Maps

/-- A disk in memory, all of whose blocks lie in P, from B on. -/
def DAt (w : World) (B : Nat) (P : Nat → Prop) (g : Nat) (d : DS) : Prop := (∃ R M D val, DiskW w P g R M D val d) ∧ ∀ b, P b → B ≤ b ∧ b < w.heap.size
section
variable {w w' : World} {B g : Nat} {P G : Nat → Prop} {d : DS}
set_option maxRecDepth 100000 in
theorem DAt.keep (h : DAt w B P g d) (f : Fr G w w') (hG : ∀ i, P i → ¬ G i) : DAt w' B P g d := by
  obtain ⟨⟨R, M, D, val, h1⟩, h2⟩ := h
  exact ⟨⟨R, M, D, val, h1.keep f hG⟩, fun b hb => ⟨(h2 b hb).1, Nat.lt_of_lt_of_le (h2 b hb).2 f.size⟩⟩
set_option maxRecDepth 100000 in
theorem DAt.new (h : DAt w B P g d) (f : Fr (fun _ => False) w w') : DAt w' B P g d := h.keep f (fun _ _ q => q)
set_option maxRecDepth 100000 in
/-- Its footprint made small: just blocks that there are. -/
theorem DAt.of (h : ∃ R M D val, DiskW w' (fun b => P b ∨ w.heap.size ≤ b) g R M D val d) (hB : B ≤ w.heap.size) (hP : ∀ b, P b → B ≤ b ∧ b < w.heap.size) (hs : w.heap.size ≤ w'.heap.size) :
    ∃ P', DAt w' B P' g d ∧ ∀ b, P' b → P b ∨ w.heap.size ≤ b := by
  obtain ⟨R, M, D, val, h⟩ := h
  refine ⟨fun b => (P b ∨ w.heap.size ≤ b) ∧ b < w'.heap.size, ⟨⟨R, M, D, val, ?_⟩, fun b hb => ⟨?_, hb.2⟩⟩, fun b hb => hb.1⟩
  · exact { h with
      fg := ⟨h.fg, h.lt.1⟩
      fR := ⟨h.fR, h.lt.2.1⟩
      fM := ⟨h.fM, h.lt.2.2⟩
      own := fun i b hi hv hb => ⟨⟨(h.own i b hi hv hb).1, h.own_lt hi hv hb⟩, (h.own i b hi hv hb).2⟩ }
  · rcases hb.1 with q | q
    · exact (hP b q).1
    · omega
set_option maxRecDepth 100000 in
theorem DAt.of_same (h : ∃ R M D val, DiskW w' P g R M D val d) (hP : ∀ b, P b → B ≤ b ∧ b < w.heap.size) (hs : w.heap.size ≤ w'.heap.size) : DAt w' B P g d :=
  ⟨h, fun b hb => ⟨(hP b hb).1, Nat.lt_of_lt_of_le (hP b hb).2 hs⟩⟩
set_option maxRecDepth 100000 in
theorem DAt.g_lt (h : DAt w B P g d) : P g ∧ B ≤ w.heap.size := by
  obtain ⟨⟨R, M, D, val, h1⟩, h2⟩ := h
  have := h2 g h1.fg
  exact ⟨h1.fg, by omega⟩

/-- A write; a flush. -/
def DS.alive (d : DS) : Bool := !deadS d.fu d.lf d.dd
def DS.write (d : DS) (i : Nat) (s : List UInt8) : DS := if d.alive then d.step.put i (if d.vs i = [] then [d.rd.getD i []] else d.vs i) s else d.step
def DS.flushed (d : DS) : DS := if d.alive then d.flush else d.step
def DS.most (d : DS) (N : Nat) : Prop := ∀ i, (d.vs i).length ≤ N
set_option maxRecDepth 100000 in
theorem write_most {N i : Nat} {s : List UInt8} (h : d.most N) (h1 : 1 ≤ N) : (d.write i s).most (N + 1) := by
  intro j
  unfold DS.write
  split
  · simp only [DS.put]
    split
    · split
      · simp; omega
      · have := h i
        simp; omega
    · exact Nat.le_succ_of_le (h j)
  · exact Nat.le_succ_of_le (h j)
set_option maxRecDepth 100000 in
theorem flushed_most {N : Nat} (h : d.most N) : d.flushed.most N := by
  intro j
  unfold DS.flushed
  split
  · simp [DS.flush]
  · exact h j
set_option maxRecDepth 100000 in
theorem write_len {i : Nat} {s : List UInt8} : (d.write i s).rd.length = d.rd.length := by
  unfold DS.write
  split <;> simp [DS.put, DS.step]
set_option maxRecDepth 100000 in
theorem flushed_len : d.flushed.rd.length = d.rd.length := by
  unfold DS.flushed
  split <;> simp [DS.flush, DS.step]

set_option maxRecDepth 100000 in
theorem awrite_any (h : DAt w B P g d) {i : Nat} (hi : i < d.rd.length) {s : List UInt8} (hs : s.length = 128) (hN : (d.vs i).length ≤ 10000) :
    Calls Tryz.prog 46 #[.pointer (some ⟨g, 0, none⟩), .int .i64 i, av s] w fun e w' => e = .returned (.int .i64 (if d.alive then 0 else 10)) ∧ (∃ P', DAt w' B P' g (d.write i s) ∧ ∀ b, P' b → P b ∨ w.heap.size ≤ b) ∧ Fr P w w' := by
  have hB := h.g_lt.2
  obtain ⟨⟨R, M, D, val, h1⟩, h2⟩ := h
  unfold DS.write DS.alive
  cases hd : deadS d.fu d.lf d.dd with
  | true =>
    refine (dwrite_dead h1 hi hd).mono ?_
    rintro e w1 ⟨rfl, k1, f1⟩
    exact ⟨rfl, ⟨P, DAt.of_same ⟨R, M, D, val, k1⟩ h2 f1.size, fun b hb => .inl hb⟩, f1⟩
  | false =>
    have hx : d.rd[i]? = some (d.rd.getD i []) := by simp [hi]
    refine (dwrite_any h1 hi hs hx hN hd).mono ?_
    rintro e w1 ⟨rfl, ⟨D', val', k1⟩, f1⟩
    exact ⟨rfl, DAt.of ⟨R, M, D', val', k1⟩ hB h2 f1.size, f1⟩
set_option maxRecDepth 100000 in
theorem awrite_bad (h : DAt w B P g d) {i : Int} (hi : i < 0 ∨ (d.rd.length : Int) ≤ i) {s : List UInt8} :
    Calls Tryz.prog 46 #[.pointer (some ⟨g, 0, none⟩), .int .i64 i, av s] w fun e w' => e = .returned (.int .i64 2) ∧ Fr (fun _ => False) w w' := by
  obtain ⟨⟨R, M, D, val, h1⟩, h2⟩ := h
  refine write_err (by omega) fun w1 hf => ?_
  have := has_any (h1.blk.keep hf (fun q => q)) i
  have he : hasE d.rd.length i = 2 := by unfold hasE; rw [if_neg (by have := h1.n0; omega), if_pos hi]
  rw [he] at this
  exact this
set_option maxRecDepth 100000 in
theorem aflush_any (h : DAt w B P g d) :
    Calls Tryz.prog 82 #[.pointer (some ⟨g, 0, none⟩)] w fun e w' => e = .returned (.int .i64 (if d.alive then 0 else 10)) ∧ DAt w' B P g d.flushed ∧ Fr P w w' := by
  obtain ⟨⟨R, M, D, val, h1⟩, h2⟩ := h
  unfold DS.flushed DS.alive
  cases hd : deadS d.fu d.lf d.dd with
  | true =>
    refine (dflush_dead h1 hd).mono ?_
    rintro e w1 ⟨rfl, k1, f1⟩
    exact ⟨rfl, DAt.of_same ⟨R, M, D, val, k1⟩ h2 f1.size, f1⟩
  | false =>
    refine (dflush_any h1 hd).mono ?_
    rintro e w1 ⟨rfl, ⟨D', k1⟩, f1⟩
    exact ⟨rfl, DAt.of_same ⟨R, M, D', val, k1⟩ h2 f1.size, f1⟩
set_option maxRecDepth 100000 in
theorem afuse_any (h : DAt w B P g d) (k : Int) (h0 : ¬ k < 0) (h1 : k ≤ 9223372036854775807) :
    Calls Tryz.prog 31 #[.pointer (some ⟨g, 0, none⟩), .int .i64 k] w fun e w' => e = .returned (.int .i64 0) ∧ DAt w' B P g { d with fu := true, lf := k } ∧ Fr P w w' := by
  obtain ⟨⟨R, M, D, val, k1⟩, k2⟩ := h
  refine (dfuse_any k1 k h0 h1).mono ?_
  rintro e w1 ⟨rfl, j1, f1⟩
  have f2 : Fr P w w1 := f1.mono (fun i _ e => by have e' : i = g := e; rw [e']; exact k1.fg)
  exact ⟨rfl, DAt.of_same ⟨R, M, D, val, j1⟩ k2 f1.size, f2⟩
set_option maxRecDepth 100000 in
theorem adead_any (h : DAt w B P g d) : Calls Tryz.prog 26 #[.pointer (some ⟨g, 0, none⟩)] w fun e w' => e = .returned (.bool d.dd) ∧ w = w' := by
  obtain ⟨⟨R, M, D, val, k1⟩, k2⟩ := h
  have := dead_any k1.blk
  rw [decide_eq_false (by have := k1.n0; omega)] at this
  simpa using this
set_option maxRecDepth 100000 in
theorem aread_any (h : DAt w B P g d) {k : Nat} (hk : k < d.rd.length) : Calls Tryz.prog 44 #[.pointer (some ⟨g, 0, none⟩), .int .i64 k] w fun e w' => e = .returned (.tuple #[av (d.rd.getD k []), .int .i64 0]) ∧ Fr (fun _ => False) w w' := by
  obtain ⟨⟨R, M, D, val, k1⟩, k2⟩ := h
  exact dread_any k1 (by simp [hk])
set_option maxRecDepth 100000 in
theorem aread_bad (h : DAt w B P g d) {i : Int} (hi : i < 0 ∨ (d.rd.length : Int) ≤ i) : Calls Tryz.prog 44 #[.pointer (some ⟨g, 0, none⟩), .int .i64 i] w fun e w' => e = .returned (.tuple #[av (nought 128), .int .i64 2]) ∧ Fr (fun _ => False) w w' := by
  obtain ⟨⟨R, M, D, val, k1⟩, k2⟩ := h
  exact dread_bad k1 hi
set_option maxRecDepth 100000 in
theorem acrash_any (h : DAt w B P g d) {vp : Value} {picks : List Int} (hp : IntsAt w vp picks) (hpF : ∀ b, vp.ownBlock = some b → ¬ P b) (hN : d.most 1000000) :
    Calls Tryz.prog 32 #[.pointer (some ⟨g, 0, none⟩), vp] w fun e w' => e = .returned (.int .i64 0) ∧ DAt w' B P g (d.crash picks) ∧ Fr P w w' := by
  obtain ⟨⟨R, M, D, val, k1⟩, k2⟩ := h
  refine (dcrash_any k1 hp (fun b hb => ⟨fun e => hpF b hb (e ▸ k1.fR), fun e => hpF b hb (e ▸ k1.fM)⟩) (fun i _ => hN i)).mono ?_
  rintro e w1 ⟨rfl, ⟨D', j1⟩, f1⟩
  exact ⟨rfl, DAt.of_same ⟨R, M, D', val, j1⟩ k2 f1.size, f1⟩
end

end Go.Proofs.YtjdbgojnpnlblaaGreat

