/- The program's disk and the document's in one memory. -/
import Derived.Test.YtiobmejnamdneaaCsm
namespace Go.Proofs.Ytiobmejnamdneaa
open Go.RowKit Go.Maps

/-- Both stand in memory, apart; all their blocks lie from B on, and none of them that is ever written is in X. -/
def Duo (w : World) (B : Nat) (X Y : Nat → Prop) (g g' : Nat) (d : DS) (r : RD) : Prop := ∃ P v vs, DAt w B P g d ∧ RefW w g' v vs r ∧ (∀ b, RIn g' v vs b → B ≤ b ∧ ¬ P b) ∧ ∀ b, X b → b < w.heap.size ∧ ¬ P b ∧ b ≠ g' ∧ v.ownBlock ≠ some b ∧ (Y b → ¬ RIn g' v vs b)
section
variable {w w' : World} {B g g' : Nat} {X Y : Nat → Prop} {d : DS} {r : RD}
theorem Duo.new (h : Duo w B X Y g g' d r) (f : Fr (fun _ => False) w w') : Duo w' B X Y g g' d r := by
  obtain ⟨P, v, vs, h1, h2, h3, h4⟩ := h
  exact ⟨P, v, vs, h1.new f, h2.keep f (fun _ _ q => q), h3, fun b q => ⟨Nat.lt_of_lt_of_le (h4 b q).1 f.size, (h4 b q).2⟩⟩
theorem Duo.n1 (h : Duo w B X Y g g' d r) : 0 < d.rd.length ∧ d.rd.length ≤ 8192 := by
  obtain ⟨P, v, vs, h1, h2, h3, h4⟩ := h
  exact h1.n1
theorem Duo.lt (h : Duo w B X Y g g' d r) : B ≤ w.heap.size ∧ B ≤ g ∧ B ≤ g' := by
  obtain ⟨P, v, vs, h1, h2, h3, h4⟩ := h
  exact ⟨h1.g_lt.2, (h1.2 g h1.g_lt.1).1, (h3 g' (.inl rfl)).1⟩
theorem Duo.all (h : Duo w B X Y g g' d r) {i : Nat} (hi : i < d.rd.length) : (d.rd.getD i []).length = 128 := by
  obtain ⟨P, v, vs, h1, h2, h3, h4⟩ := h
  exact h1.all hi
theorem duo_same (h : Duo w B X Y g g' d r) (hs : Sim d r) : Calls Try.prog 12 #[.pointer (some ⟨g, 0, none⟩), .pointer (some ⟨g', 0, none⟩)] w fun e w' => e = .returned (.bool true) ∧ Fr (fun _ => False) w w' := by
  obtain ⟨P, v, vs, h1, h2, h3, h4⟩ := h
  exact csame_any h1 h2 hs
theorem duo_write (h : Duo w B X Y g g' d r) {i : Nat} (hi : i < d.rd.length) {s : List UInt8} (hs : s.length = 128) (hN : (d.vs i).length ≤ 10000) :
    Calls Try.prog 16 #[.pointer (some ⟨g, 0, none⟩), .int .i64 i, av s] w fun e w' => e = .returned (.int .i64 (if d.alive then 0 else 10)) ∧ Duo w' B X Y g g' (d.write i s) r ∧ Fr (fun b => B ≤ b ∧ ¬ X b) w w' := by
  obtain ⟨P, v, vs, h1, h2, h3, h4⟩ := h
  refine (awrite_any h1 hi hs hN).mono ?_
  rintro e w1 ⟨rfl, ⟨P', k1, k2⟩, f⟩
  refine ⟨rfl, ⟨P', v, vs, k1, h2.keep f (fun b hb => (h3 b hb).2), fun b hb => ⟨(h3 b hb).1, fun q => ?_⟩, fun b q => ⟨Nat.lt_of_lt_of_le (h4 b q).1 f.size, fun e => ?_, (h4 b q).2.2⟩⟩, f.mono fun b _ hb => ⟨(h1.2 b hb).1, fun q => (h4 b q).2.1 hb⟩⟩
  · rcases k2 b q with q | q
    · exact (h3 b hb).2 q
    · have := h2.in_lt hb
      omega
  · rcases k2 b e with e | e
    · exact (h4 b q).2.1 e
    · have := (h4 b q).1
      omega
theorem duo_write_bad (h : Duo w B X Y g g' d r) {i : Int} (hi : i < 0 ∨ (d.rd.length : Int) ≤ i) {s : List UInt8} :
    Calls Try.prog 16 #[.pointer (some ⟨g, 0, none⟩), .int .i64 i, av s] w fun e w' => e = .returned (.int .i64 2) ∧ Fr (fun _ => False) w w' := by
  obtain ⟨P, v, vs, h1, h2, h3, h4⟩ := h
  exact awrite_bad h1 hi
theorem duo_flush (h : Duo w B X Y g g' d r) :
    Calls Try.prog 17 #[.pointer (some ⟨g, 0, none⟩)] w fun e w' => e = .returned (.int .i64 (if d.alive then 0 else 10)) ∧ Duo w' B X Y g g' d.flushed r ∧ Fr (fun b => B ≤ b ∧ ¬ X b) w w' := by
  obtain ⟨P, v, vs, h1, h2, h3, h4⟩ := h
  refine (aflush_any h1).mono ?_
  rintro e w1 ⟨rfl, k1, f⟩
  exact ⟨rfl, ⟨P, v, vs, k1, h2.keep f (fun b hb => (h3 b hb).2), h3, fun b q => ⟨Nat.lt_of_lt_of_le (h4 b q).1 f.size, (h4 b q).2⟩⟩, f.mono fun b _ hb => ⟨(h1.2 b hb).1, fun q => (h4 b q).2.1 hb⟩⟩
theorem duo_fuse (h : Duo w B X Y g g' d r) (k : Int) (h0 : ¬ k < 0) (h1 : k ≤ 9223372036854775807) :
    Calls Try.prog 25 #[.pointer (some ⟨g, 0, none⟩), .int .i64 k] w fun e w' => e = .returned (.int .i64 0) ∧ Duo w' B X Y g g' { d with fu := true, lf := k } r ∧ Fr (fun b => B ≤ b ∧ ¬ X b) w w' := by
  obtain ⟨P, v, vs, j1, h2, h3, h4⟩ := h
  refine (afuse_any j1 k h0 h1).mono ?_
  rintro e w1 ⟨rfl, k1, f⟩
  exact ⟨rfl, ⟨P, v, vs, k1, h2.keep f (fun b hb => (h3 b hb).2), h3, fun b q => ⟨Nat.lt_of_lt_of_le (h4 b q).1 f.size, (h4 b q).2⟩⟩, f.mono fun b _ hb => ⟨(j1.2 b hb).1, fun q => (h4 b q).2.1 hb⟩⟩
theorem duo_crash (h : Duo w B X Y g g' d r) {vp : Value} {picks : List Int} (hp : IntsAt w vp picks) (hpF : ∀ b, vp.ownBlock = some b → 0 < picks.length → b < B) (hN : d.most 1000000) :
    Calls Try.prog 18 #[.pointer (some ⟨g, 0, none⟩), vp] w fun e w' => e = .returned (.int .i64 0) ∧ Duo w' B X Y g g' (d.crash picks) r ∧ Fr (fun b => B ≤ b ∧ ¬ X b) w w' := by
  obtain ⟨P, v, vs, h1, h2, h3, h4⟩ := h
  obtain ⟨⟨R, M, D, val, k1⟩, k2⟩ := h1
  have hap : ∀ b, vp.ownBlock = some b → 0 < picks.length → ¬ P b := fun b hb q e => by
    have := hpF b hb q
    have := (k2 b e).1
    omega
  refine (dcrash_pos k1 hp (fun b hb q => ⟨fun e => hap b hb q (e ▸ k1.fR), fun e => hap b hb q (e ▸ k1.fM)⟩) (fun i _ => hN i)).mono ?_
  rintro e w1 ⟨rfl, ⟨D', j1⟩, f1⟩
  exact ⟨rfl, ⟨P, v, vs, DAt.of_same ⟨R, M, D', val, j1⟩ k2 f1.size, h2.keep f1 (fun b hb => (h3 b hb).2), h3, fun b q => ⟨Nat.lt_of_lt_of_le (h4 b q).1 f1.size, (h4 b q).2⟩⟩, f1.mono fun b _ hb => ⟨(k2 b hb).1, fun q => (h4 b q).2.1 hb⟩⟩
theorem duo_read (h : Duo w B X Y g g' d r) {k : Nat} (hk : k < d.rd.length) : Calls Try.prog 19 #[.pointer (some ⟨g, 0, none⟩), .int .i64 k] w fun e w' => e = .returned (.tuple #[av (d.rd.getD k []), .int .i64 0]) ∧ Fr (fun _ => False) w w' := by
  obtain ⟨P, v, vs, h1, h2, h3, h4⟩ := h
  exact aread_any h1 hk
theorem duo_read_bad (h : Duo w B X Y g g' d r) {i : Int} (hi : i < 0 ∨ (d.rd.length : Int) ≤ i) : Calls Try.prog 19 #[.pointer (some ⟨g, 0, none⟩), .int .i64 i] w fun e w' => e = .returned (.tuple #[av (nought 128), .int .i64 2]) ∧ Fr (fun _ => False) w w' := by
  obtain ⟨P, v, vs, h1, h2, h3, h4⟩ := h
  exact aread_bad h1 hi
theorem duo_rin (h : Duo w B X Y g g' d r) (i : Int) : Calls Try.prog 21 #[.pointer (some ⟨g', 0, none⟩), .int .i64 i] w fun e w' => e = .returned (.bool (decide (0 ≤ i) && decide (i < (r.V.length : Int)))) ∧ w = w' := by
  obtain ⟨P, v, vs, h1, h2, h3, h4⟩ := h
  exact rin_any h2 i
theorem duo_rread (h : Duo w B X Y g g' d r) {i : Nat} {ss : List (List UInt8)} (hi : r.V[i]? = some ss) : Calls Try.prog 11 #[.pointer (some ⟨g', 0, none⟩), .int .i64 i] w fun e w' =>
    e = .returned (av (ss.getD (ss.length - 1) [])) ∧ Fr (fun _ => False) w w' := by
  obtain ⟨P, v, vs, h1, h2, h3, h4⟩ := h
  exact rread_any h2 hi
/-- What the document's calls leave of the program's disk. -/
theorem Duo.turn {P : Nat → Prop} {v : Value} {vs vs' : List Value} {r' : RD} (h1 : DAt w B P g d) (h3 : ∀ b, RIn g' v vs b → B ≤ b ∧ ¬ P b) (h4 : ∀ b, X b → b < w.heap.size ∧ ¬ P b ∧ b ≠ g' ∧ v.ownBlock ≠ some b ∧ (Y b → ¬ RIn g' v vs b)) (k : RefW w' g' v vs' r') (hb : ∀ b, RIn g' v vs' b → RIn g' v vs b ∨ w.heap.size ≤ b)
    (f : Fr (fun b => b = g' ∨ v.ownBlock = some b) w w') : Duo w' B X Y g g' d r' ∧ Fr (fun b => B ≤ b ∧ ¬ X b) w w' := by
  have hR : ∀ b, (b = g' ∨ v.ownBlock = some b) → RIn g' v vs b := fun b q => by
    rcases q with q | q
    · exact .inl q
    · exact .inr (.inl q)
  refine ⟨⟨P, v, vs', h1.keep f (fun b hb q => (h3 b (hR b q)).2 hb), k, fun b q => ?_, fun b q => ⟨Nat.lt_of_lt_of_le (h4 b q).1 f.size, (h4 b q).2.1, (h4 b q).2.2.1, (h4 b q).2.2.2.1, fun y e => ?_⟩⟩, f.mono fun b _ q => ⟨(h3 b (hR b q)).1, fun e => ?_⟩⟩
  · rcases hb b q with q | q
    · exact h3 b q
    · refine ⟨by have := h1.g_lt.2; omega, fun e => ?_⟩
      have := (h1.2 b e).2
      omega
  · rcases hb b e with e | e
    · exact (h4 b q).2.2.2.2 y e
    · have := (h4 b q).1
      omega
  · rcases q with q | q
    · exact (h4 b e).2.2.1 q
    · exact (h4 b e).2.2.2.1 q
theorem duo_rwrite (h : Duo w B X Y g g' d r) (h1 : r.left ≤ 9223372036854775807) {i : Nat} {ss : List (List UInt8)} (hi : r.V[i]? = some ss) (hN : ss.length ≤ 10000) {s : List UInt8} (hs : s.length = 128) (ho : r.out = false) :
    Calls Try.prog 23 #[.pointer (some ⟨g', 0, none⟩), .int .i64 i, av s] w fun e w' => e = .returned (.bool true) ∧ Duo w' B X Y g g' d { r.stepD with V := r.V.set i (ss ++ [s]) } ∧ Fr (fun b => B ≤ b ∧ ¬ X b) w w' := by
  obtain ⟨P, v, vs, k1, k2, k3, k4⟩ := h
  refine (rwrite_any k2 h1 hi hN hs ho).mono ?_
  rintro e w1 ⟨rfl, ⟨vs', j1, j2⟩, f⟩
  have := Duo.turn k1 k3 k4 j1 j2 f
  exact ⟨rfl, this⟩
theorem duo_rwrite_dead (h : Duo w B X Y g g' d r) (h1 : r.left ≤ 9223372036854775807) {i : Int} {s : List UInt8} (ho : r.out = true) :
    Calls Try.prog 23 #[.pointer (some ⟨g', 0, none⟩), .int .i64 i, av s] w fun e w' => e = .returned (.bool false) ∧ Duo w' B X Y g g' d r.stepD ∧ Fr (fun b => B ≤ b ∧ ¬ X b) w w' := by
  obtain ⟨P, v, vs, k1, k2, k3, k4⟩ := h
  refine (rwrite_dead k2 h1 ho).mono ?_
  rintro e w1 ⟨rfl, j1, f⟩
  exact ⟨rfl, Duo.turn k1 k3 k4 j1 (fun b q => .inl q) (f.mono fun b _ q => .inl q)⟩
theorem duo_rflush (h : Duo w B X Y g g' d r) (h1 : r.left ≤ 9223372036854775807) (hn : 0 < r.V.length) (hn8 : r.V.length ≤ 8192) (ho : r.out = false) :
    Calls Try.prog 24 #[.pointer (some ⟨g', 0, none⟩)] w fun e w' => e = .returned (.bool true) ∧ Duo w' B X Y g g' d { r.stepD with V := r.V.map lastOne } ∧ Fr (fun b => B ≤ b ∧ ¬ X b) w w' := by
  obtain ⟨P, v, vs, k1, k2, k3, k4⟩ := h
  refine (rflush_any k2 h1 hn hn8 ho).mono ?_
  rintro e w1 ⟨rfl, ⟨vs', j1, j2⟩, f⟩
  exact ⟨rfl, Duo.turn k1 k3 k4 j1 j2 f⟩
theorem duo_rflush_dead (h : Duo w B X Y g g' d r) (h1 : r.left ≤ 9223372036854775807) (ho : r.out = true) :
    Calls Try.prog 24 #[.pointer (some ⟨g', 0, none⟩)] w fun e w' => e = .returned (.bool false) ∧ Duo w' B X Y g g' d r.stepD ∧ Fr (fun b => B ≤ b ∧ ¬ X b) w w' := by
  obtain ⟨P, v, vs, k1, k2, k3, k4⟩ := h
  refine (rflush_dead k2 h1 ho).mono ?_
  rintro e w1 ⟨rfl, j1, f⟩
  exact ⟨rfl, Duo.turn k1 k3 k4 j1 (fun b q => .inl q) (f.mono fun b _ q => .inl q)⟩
theorem duo_rcrash (h : Duo w B X Y g g' d r) (hn : 0 < r.V.length) (hn8 : r.V.length ≤ 8192) (hN : ∀ (i : Nat) ss, r.V[i]? = some ss → ss.length ≤ 10000) {vp : Value} {picks : List Int} (hp : IntsAt w vp picks) (hpF : ∀ b, vp.ownBlock = some b → 0 < picks.length → b < B)
    (hpz : ∀ z ∈ picks, -9223372036854775808 ≤ z ∧ z ≤ 9223372036854775807) :
    Calls Try.prog 26 #[.pointer (some ⟨g', 0, none⟩), vp] w fun e w' => e = .returned (.tuple #[]) ∧ Duo w' B X Y g g' d (r.crash picks) ∧ Fr (fun b => B ≤ b ∧ ¬ X b) w w' := by
  obtain ⟨P, v, vs, k1, k2, k3, k4⟩ := h
  refine (rcrash_any k2 hn hn8 hN hp (fun b hb q => ⟨fun e => ?_, fun e => ?_⟩) hpz).mono ?_
  · have := hpF b hb q
    have := (k3 b (.inl e)).1
    omega
  · have := hpF b hb q
    have := (k3 b (.inr (.inl e))).1
    omega
  · rintro e w1 ⟨rfl, ⟨vs', j1, j2⟩, f⟩
    exact ⟨rfl, Duo.turn k1 k3 k4 j1 j2 f⟩
/-- The document's fuse is a store into its field. -/
theorem duo_rfuse (h : Duo w B X Y g g' d r) (k : Int) : (∃ z, w.cell? ⟨g', 1, none⟩ = some z) ∧ w.frozen? ⟨g', 1, none⟩ = false ∧ Duo (w.setCell ⟨g', 1, none⟩ (.int .i64 k)) B X Y g g' d { r with left := k } ∧ Fr (fun b => B ≤ b ∧ ¬ X b) w (w.setCell ⟨g', 1, none⟩ (.int .i64 k)) := by
  obtain ⟨P, v, vs, k1, k2, k3, k4⟩ := h
  have f : Fr (fun b => b = g') w (w.setCell ⟨g', 1, none⟩ (.int .i64 k)) := (Fr.refl (fun b => b = g') w).setCell (p := ⟨g', 1, none⟩) (.inl rfl) _
  have hb := k2.blk.set_ 1 (.int .i64 k)
  have j1 : RefW (w.setCell ⟨g', 1, none⟩ (.int .i64 k)) g' v vs { r with left := k } := k2.struct (left := k) (dead := r.dead) f hb
  exact ⟨⟨_, k2.blk.cell 1⟩, k2.blk.frozen 1, Duo.turn k1 k3 k4 j1 (fun b q => .inl q) (f.mono fun b _ q => .inl q)⟩
/-- A new block beside them. -/
theorem Duo.box (h : Duo w B X Y g g' d r) (o : Obj) : Duo (w.alloc o) B (fun b => b = w.heap.size ∨ X b) Y g g' d r := by
  obtain ⟨P, v, vs, h1, h2, h3, h4⟩ := h
  have f := (Fr.refl (fun _ => False) w).alloc o
  refine ⟨P, v, vs, h1.new f, h2.keep f (fun _ _ q => q), h3, fun b q => ?_⟩
  rcases q with q | q
  · refine ⟨?_, fun e => ?_, fun e => ?_, fun e => ?_, fun _ e => ?_⟩
    · rw [q]
      simp
    · have := (h1.2 b e).2
      omega
    · have := h2.in_lt (.inl e)
      omega
    · have := h2.in_lt (.inr (.inl e))
      omega
    · have := h2.in_lt e
      omega
  · exact ⟨Nat.lt_of_lt_of_le (h4 b q).1 f.size, (h4 b q).2⟩
theorem Duo.less (h : Duo w B X Y g g' d r) {Z : Nat → Prop} (hY : ∀ b, Z b → X b) : Duo w B Z Y g g' d r := by
  obtain ⟨P, v, vs, h1, h2, h3, h4⟩ := h
  exact ⟨P, v, vs, h1, h2, h3, fun b q => h4 b (hY b q)⟩
end
end Go.Proofs.Ytiobmejnamdneaa
