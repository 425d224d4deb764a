/- wal's calls on a disk at rest: Open, Commit, Truncate. -/
import Derived.Test.YtobnfadcffhfdaaVli
namespace Go.Proofs.Ytobnfadcffhfdaa
open Go.RowKit Go.Maps

theorem part64 (x : List UInt8) {i k : Nat} (h : i + k ≤ 64) : (x.drop i).take k = ((x.take 64).drop i).take k := by
  rw [List.drop_take, List.take_take, Nat.min_eq_left (by omega)]
theorem hdS_drop64 (c s : Nat) : (hdS c s).drop 64 = nought 64 := by
  have e1 : hdS c s = hd20 c s ++ nought 108 := rfl
  rw [e1, show (64 : Nat) = 20 + 44 by rfl, ← List.drop_drop, List.drop_left' (hd20_len _ _)]
  decide +kernel
theorem HeadIs.facts {d : DS} {c s : Nat} (h : HeadIs d c s) : isHd d.head = true ∧ cntOf d.head = c ∧ sinOf d.head = s := by
  obtain ⟨h1, h2, h3, h4⟩ := h
  have hn := hdS_nums (c := c) (s := s) h4 (Nat.le_trans h3 h4)
  have hc : cntOf d.head = c := by
    rw [← hn.1]
    unfold cntOf
    rw [part64 d.head (by omega), part64 (hdS c s) (by omega), h1]
  have hs : sinOf d.head = s := by
    rw [← hn.2]
    unfold sinOf
    rw [part64 d.head (by omega), part64 (hdS c s) (by omega), h1]
  refine ⟨?_, hc, hs⟩
  have ht : tornOf d.head (nought 128) = hdS c s := by
    have hd : (nought 128).drop 64 = nought 64 := by decide +kernel
    unfold tornOf
    rw [hd, h1, ← hdS_drop64 c s, List.take_append_drop]
  unfold isHd
  rw [hc, hs, ht]
  simp
  exact ⟨h2, h3, h4⟩
/-- A disk in memory, by its least footprint. -/
def DT (w : World) (B g : Nat) (d : DS) (P : Nat → Prop) : Prop := DAt w B P g d ∧ ∀ b t cs, P b → Blk w b t cs → t = 73 ∨ t = 76
theorem DT.of {w : World} {B g S : Nat} {P0 P : Nat → Prop} {d : DS} (h : DAt w B P g d) (hs : ∀ b, P b → P0 b ∨ S ≤ b) : ∃ P', DT w B g d P' ∧ ∀ b, P' b → P0 b ∨ S ≤ b := by
  obtain ⟨P', h1, h2, h3⟩ := h.tight
  exact ⟨P', ⟨h1, h3⟩, fun b hb => hs b (h2 b hb)⟩
theorem DT.not_log {w : World} {B g lb z c s us m : Nat} {dd : Bool} {P : Nat → Prop} {d : DS} (h : DT w B g d P) (hl : LgW w lb g z c s us m dd) : ¬ P lb := fun q => by
  rcases h.2 lb _ _ q hl with e | e
  · exact absurd e (by decide)
  · exact absurd e (by decide)
theorem DT.not_chg {w : World} {B g b : Nat} {cs : Array Value} {P : Nat → Prop} {d : DS} (h : DT w B g d P) (hl : Blk w b 84 cs) : ¬ P b := fun q => by
  rcases h.2 b _ _ q hl with e | e
  · exact absurd e (by decide)
  · exact absurd e (by decide)
theorem DT.not_rec {w : World} {B g b : Nat} {cs : Array Value} {P : Nat → Prop} {d : DS} (h : DT w B g d P) (hl : Blk w b 25 cs) : ¬ P b := fun q => by
  rcases h.2 b _ _ q hl with e | e
  · exact absurd e (by decide)
  · exact absurd e (by decide)
/-- Records stay where the disk alone is written. -/
theorem RcsV.disk {w w' : World} {B g base : Nat} {v : Value} {rs : List (List Chg)} {P : Nat → Prop} {d : DS} (h : RcsV w base v rs) (hd : DT w B g d P) (f : Fr P w w') : RcsV w' base v rs := by
  obtain ⟨vs, h1, h2, h3⟩ := h
  have hv : ∀ k, v.ownBlock = some k → ¬ P k := fun k hk => by
    rcases h1.2 with ⟨q, _⟩ | ⟨b', cap, cur, q, _, hbb, _⟩
    · rw [q] at hk
      simp [Value.ownBlock] at hk
    · rw [q] at hk
      have hb2 : b' = k := by simpa [Value.ownBlock] using hk
      subst hb2
      exact hd.not_rec hbb
  refine ⟨vs, own_keep h1 f hv, h2, fun i u r hu hr => ?_⟩
  obtain ⟨q1, q2⟩ := h3 i u r hu hr
  refine ⟨q1.keep f (fun b hb => ?_), fun b hb => ?_⟩
  · obtain ⟨_, cs, j⟩ := q2 b hb
    exact hd.not_chg j
  · obtain ⟨j1, cs, j2⟩ := q2 b hb
    exact ⟨j1, cs, j2.keep f (hd.not_chg j2)⟩
section
variable {w : World} {B g z c s e : Nat} {P : Nat → Prop} {d : DS} {q : List (Nat × List Chg)}
theorem ropen_any (h : DT w B g d P) (hr : RI d z c s q e) (h4 : 4 ≤ z) (hz : z ≤ 4000) (hc : c < maxC) : Calls Try.prog 22 #[.pointer (some ⟨g, 0, none⟩), .int .i64 z] w fun en w' =>
    (d.settles 0 [hdS (c + 1) s] = false → en = .returned (.tuple #[.pointer none, .slice none 0 0, .int .i64 10])) ∧
    (d.settles 0 [hdS (c + 1) s] = true → ∃ lb v, en = .returned (.tuple #[.pointer (some ⟨lb, 0, none⟩), v, .int .i64 0]) ∧ w.heap.size ≤ lb ∧ LgW w' lb g z (c + 1) s e q.length false ∧ RcsV w' w.heap.size v (q.map (·.2))) ∧
    (∃ P', DT w' B g (d.settle 0 [hdS (c + 1) s]) P' ∧ ∀ b, P' b → P b ∨ w.heap.size ≤ b) ∧ Fr P w w' := by
  obtain ⟨k1, k2, k3⟩ := hr.hd.facts
  have ho := open_go h.1 h4 hz hr.len k1 (by rw [k2]; exact hc) (fun j => by rw [hr.vs j]; exact Nat.zero_le _)
  rw [k2, k3] at ho
  have hs := hr.says
  have hq := hr.len_q
  have hbd : (d.rd.take (z + 1)).drop 1 = bodyOf d z := rfl
  rw [hbd] at ho
  refine ho.mono ?_
  rintro en w' ⟨o1, o2, ⟨P', hp1, hp2, _⟩, f⟩
  refine ⟨o1, fun ok => ?_, DT.of hp1 hp2, f⟩
  obtain ⟨lb, v, rfl, hlb, hlg, hv⟩ := o2 ok
  rw [hs.2.1, hq] at hlg
  rw [hs.1] at hv
  exact ⟨lb, v, rfl, hlb, hlg, hv⟩
theorem rtrunc_any {lb : Nat} (h : DT w B g d P) (hr : RI d z c s q e) (hl : LgW w lb g z c s e q.length false) (hc : c < maxC) : Calls Try.prog 25 #[.pointer (some ⟨lb, 0, none⟩)] w fun en w' =>
    en = .returned (.int .i64 (if d.settles 0 [hdS (c + 1) (c + 1)] then 0 else 10)) ∧ (if d.settles 0 [hdS (c + 1) (c + 1)] then LgW w' lb g z (c + 1) (c + 1) 0 0 false else LgW w' lb g z c s e q.length true) ∧
    (∃ P', DT w' B g (d.settle 0 [hdS (c + 1) (c + 1)]) P' ∧ ∀ b, P' b → P b ∨ w.heap.size ≤ b) ∧ Fr (fun b => P b ∨ b = lb) w w' := by
  refine (ltrunc_any hl (h.not_log hl) h.1 hc (Nat.le_trans hr.hd.2.2.1 hr.hd.2.2.2) (fun j => by rw [hr.vs j]; exact Nat.zero_le _)).mono ?_
  rintro en w' ⟨o1, o2, ⟨P', hp1, hp2⟩, f⟩
  exact ⟨o1, o2, DT.of hp1 hp2, f⟩
/-- A record that may be, in a log that has room. -/
theorem rcommit_any {lb : Nat} {v : Value} {r : List Chg} (h : DT w B g d P) (hr : RI d z c s q e) (hl : LgW w lb g z c s e q.length false) (hv : RcV w v r) (hvP : ∀ b, v.ownBlock = some b → ∃ cs, Blk w b 84 cs) (hm : mayR r = true) (ht : mayT c (q.length : Int) = true) (hz : z ≤ 4000) :
    Calls Try.prog 24 #[.pointer (some ⟨lb, 0, none⟩), v] w fun en w' =>
      (z < e + needN ((bytesR r).length : Nat) → en = .returned (.int .i64 8) ∧ Fr (fun _ => False) w w') ∧
      (e + needN ((bytesR r).length : Nat) ≤ z → en = .returned (.int .i64 (if d.settles (1 + e) (rowS c q.length r) then 0 else 10)) ∧ (if d.settles (1 + e) (rowS c q.length r) then LgW w' lb g z c s (e + needN ((bytesR r).length : Nat)) (q.length + 1) false else LgW w' lb g z c s e q.length true) ∧
        (∃ P', DT w' B g (d.settle (1 + e) (rowS c q.length r)) P' ∧ ∀ b, P' b → P b ∨ w.heap.size ≤ b) ∧ Fr (fun b => P b ∨ b = lb) w w') := by
  refine (lcommit_any hl (h.not_log hl) h.1 hv (fun b hb => by obtain ⟨cs, j⟩ := hvP b hb; exact h.not_chg j) hm ht hz hr.says.2.2 hr.len (fun j => by rw [hr.vs j]; exact Nat.zero_le _)).mono ?_
  rintro en w' ⟨o1, o2⟩
  rw [rowS_len] at o1 o2
  refine ⟨o1, fun hfit => ?_⟩
  obtain ⟨k1, k2, ⟨P', hp1, hp2⟩, f⟩ := o2 hfit
  exact ⟨k1, k2, DT.of hp1 hp2, f⟩
end
end Go.Proofs.Ytobnfadcffhfdaa
