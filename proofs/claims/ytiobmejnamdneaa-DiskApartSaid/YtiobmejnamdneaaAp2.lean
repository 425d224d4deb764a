/- Two pairs of disks in one memory: what one pair does leaves the other. -/
import Derived.Test.YtiobmejnamdneaaAp1
import Derived.Test.YtiobmejnamdneaaDoz
namespace Go.Proofs.Ytiobmejnamdneaa
open Go.RowKit Go.Maps

/-- Two pairs: (g, g') and (h, h'). The documents' disks may share versions, but neither writes what the other has. -/
def Prs (w : World) (B g g' h h' : Nat) (d : DS) (r : RD) (o : DS) (q : RD) : Prop :=
  ∃ P v vs Q u us, DAt w B P g d ∧ RefW w g' v vs r ∧ DAt w B Q h o ∧ RefW w h' u us q ∧ (∀ b, RIn g' v vs b → B ≤ b ∧ ¬ P b ∧ ¬ Q b) ∧ (∀ b, RIn h' u us b → B ≤ b ∧ ¬ P b ∧ ¬ Q b) ∧ (∀ b, P b → ¬ Q b) ∧
    (∀ b, (b = g' ∨ v.ownBlock = some b) → ¬ RIn h' u us b) ∧ ∀ b, (b = h' ∨ u.ownBlock = some b) → ¬ RIn g' v vs b
section
variable {w w' : World} {B g g' h h' : Nat} {d o : DS} {r q : RD}
theorem Prs.swap (k : Prs w B g g' h h' d r o q) : Prs w B h h' g g' o q d r := by
  obtain ⟨P, v, vs, Q, u, us, k1, k2, k3, k4, k5, k6, k7, k8, k9⟩ := k
  exact ⟨Q, u, us, P, v, vs, k3, k4, k1, k2, fun b hb => ⟨(k6 b hb).1, (k6 b hb).2.2, (k6 b hb).2.1⟩, fun b hb => ⟨(k5 b hb).1, (k5 b hb).2.2, (k5 b hb).2.1⟩, fun b hq hp => k7 b hp hq, k9, k8⟩
theorem Prs.new (k : Prs w B g g' h h' d r o q) (f : Fr (fun _ => False) w w') : Prs w' B g g' h h' d r o q := by
  obtain ⟨P, v, vs, Q, u, us, k1, k2, k3, k4, k5⟩ := k
  exact ⟨P, v, vs, Q, u, us, k1.new f, k2.keep f (fun _ _ q => q), k3.new f, k4.keep f (fun _ _ q => q), k5⟩
theorem rin_of {g : Nat} {v : Value} {vs : List Value} {b : Nat} (h : b = g ∨ v.ownBlock = some b) : RIn g v vs b := by
  rcases h with h | h
  · exact .inl h
  · exact .inr (.inl h)
/-- One pair alone, and what it leaves. -/
theorem Prs.duo (k : Prs w B g g' h h' d r o q) : ∃ X Y : Nat → Prop, Duo w B X Y g g' d r ∧ ∀ w' d' r', Duo w' B X Y g g' d' r' → Fr (fun b => B ≤ b ∧ ¬ X b) w w' → Prs w' B g g' h h' d' r' o q := by
  obtain ⟨P, v, vs, Q, u, us, k1, k2, k3, k4, k5, k6, k7, k8, k9⟩ := k
  refine ⟨fun b => Q b ∨ RIn h' u us b, fun b => Q b ∨ b = h' ∨ u.ownBlock = some b, ⟨P, v, vs, k1, k2, fun b hb => ⟨(k5 b hb).1, (k5 b hb).2.1⟩, fun b x => ⟨?_, fun e => ?_, fun e => ?_, fun e => ?_, fun y e => ?_⟩⟩, ?_⟩
  · rcases x with x | x
    · exact (k3.2 b x).2
    · exact k4.in_lt x
  · rcases x with x | x
    · exact k7 b e x
    · exact (k6 b x).2.1 e
  · rcases x with x | x
    · exact (k5 b (.inl e)).2.2 x
    · exact k8 b (.inl e) x
  · rcases x with x | x
    · exact (k5 b (.inr (.inl e))).2.2 x
    · exact k8 b (.inr e) x
  · rcases y with y | y
    · exact (k5 b e).2.2 y
    · exact k9 b y e
  · rintro w' d' r' ⟨P', v', vs', j1, j2, j3, j4⟩ f
    refine ⟨P', v', vs', Q, u, us, j1, j2, k3.keep f (fun b hb e => e.2 (.inl hb)), k4.keep f (fun b hb e => e.2 (.inr hb)), fun b hb => ⟨(j3 b hb).1, (j3 b hb).2, fun e => (j4 b (.inl e)).2.2.2.2 (.inl e) hb⟩, fun b hb => ⟨(k6 b hb).1, (j4 b (.inr hb)).2.1, (k6 b hb).2.2⟩, fun b e hq => (j4 b (.inl hq)).2.1 e, fun b hx e => ?_, fun b hx e => ?_⟩
    · rcases hx with hx | hx
      · exact (j4 b (.inr e)).2.2.1 hx
      · exact (j4 b (.inr e)).2.2.2.1 hx
    · exact (j4 b (.inr (rin_of hx))).2.2.2.2 (.inr hx) e
/-- Copies stand apart. -/
theorem prs_of {w w1 w2 : World} {P Q : Nat → Prop} {v v2 : Value} {vs : List Value} {g2 g2' : Nat} (k1 : DAt w B P g d) (k2 : RefW w g' v vs r) (k3 : ∀ b, RIn g' v vs b → B ≤ b ∧ ¬ P b) (f1 : Fr (fun _ => False) w w1) (j1 : DAt w1 w.heap.size Q g2 o)
    (f2 : Fr (fun _ => False) w1 w2) (j2 : RefW w2 g2' v2 vs r) (hg : w1.heap.size ≤ g2') (hv : ∀ b, v2.ownBlock = some b → w1.heap.size ≤ b) : Prs w2 B g g' g2 g2' d r o r := by
  have f := f1.trans f2 (fun _ _ q => q)
  have hs := f1.size
  have hB := k1.g_lt.2
  have hel : ∀ b, RIn g2' v2 vs b → w1.heap.size ≤ b ∨ (RIn g' v vs b ∧ b ≠ g' ∧ v.ownBlock ≠ some b) := fun b hb => by
    rcases hb with e | e | ⟨x, hx, e⟩
    · left; omega
    · left; exact hv b e
    · right
      exact ⟨.inr (.inr ⟨x, hx, e⟩), fun e2 => k2.g_el hx (by rw [← e2]; exact e), fun e2 => k2.row_el hx e e2⟩
  refine ⟨P, v, vs, Q, v2, vs, k1.new f, k2.keep f (fun _ _ q => q), ⟨(j1.new f2).1, fun b hb => ⟨by have := (j1.2 b hb).1; omega, ((j1.new f2).2 b hb).2⟩⟩, j2, fun b hb => ⟨(k3 b hb).1, (k3 b hb).2, fun e => ?_⟩, fun b hb => ?_, fun b hp hq => ?_, fun b hx e => ?_, fun b hx e => ?_⟩
  · have := (j1.2 b e).1
    have := k2.in_lt hb
    omega
  · rcases hel b hb with e | ⟨e, _, _⟩
    · refine ⟨by omega, fun hp => ?_, fun hq => ?_⟩
      · have := (k1.2 b hp).2
        omega
      · have := (j1.2 b hq).2
        omega
    · refine ⟨(k3 b e).1, (k3 b e).2, fun hq => ?_⟩
      have := (j1.2 b hq).1
      have := k2.in_lt e
      omega
  · have := (k1.2 b hp).2
    have := (j1.2 b hq).1
    omega
  · rcases hel b e with e2 | ⟨_, e2, e3⟩
    · have := k2.in_lt (rin_of hx)
      omega
    · rcases hx with hx | hx
      · exact e2 hx
      · exact e3 hx
  · have := k2.in_lt e
    rcases hx with hx | hx
    · omega
    · have := hv b hx
      omega
/-- An act on one pair. -/
theorem prs_do {N : Nat} {a : ActD} (k : Prs w B g g' h h' d r o q) (hs : Sim d r) (hM : d.most N) (h1 : 1 ≤ N) (hN : N ≤ 1000) (ha : ActIn w a) (hpF : ∀ b, a.pv.ownBlock = some b → 0 < a.ps.length → b < B) (hpz : ActZ a) :
    Calls Try.prog 7 #[.pointer (some ⟨g, 0, none⟩), .pointer (some ⟨g', 0, none⟩), .agg (actC a).toArray] w fun e w' => e = .returned (.bool true) ∧ (∃ d' r', Prs w' B g g' h h' d' r' o q ∧ Sim d' r' ∧ d'.most (N + 1) ∧ d'.rd.length = d.rd.length) ∧ Fr (fun b => B ≤ b) w w' := by
  obtain ⟨X, Y, hD, hb⟩ := k.duo
  refine (cdo_any hD hs hM h1 hN ha hpF hpz).mono ?_
  rintro e w1 ⟨rfl, ⟨d', r', hD', hs', hM', hl'⟩, f⟩
  exact ⟨rfl, ⟨d', r', hb w1 d' r' hD' f, hs', hM', hl'⟩, f.mono (fun _ _ e => e.1)⟩
theorem prs_same (k : Prs w B g g' h h' d r o q) (hs : Sim d r) : Calls Try.prog 12 #[.pointer (some ⟨g, 0, none⟩), .pointer (some ⟨g', 0, none⟩)] w fun e w' => e = .returned (.bool true) ∧ Fr (fun _ => False) w w' := by
  obtain ⟨X, Y, hD, _⟩ := k.duo
  exact duo_same hD hs
theorem prs_dsame (k : Prs w B g g' h h' d r o q) :
    Calls Try.prog 10 #[.pointer (some ⟨g, 0, none⟩), .pointer (some ⟨h, 0, none⟩)] w fun e w' => ∃ b : Bool, e = .returned (.bool b) ∧ (b = true ↔ d.Like o) ∧ Fr (fun _ => False) w w' := by
  obtain ⟨P, v, vs, Q, u, us, k1, k2, k3, _⟩ := k
  exact asame_any k1 k3
end
end Go.Proofs.Ytiobmejnamdneaa
