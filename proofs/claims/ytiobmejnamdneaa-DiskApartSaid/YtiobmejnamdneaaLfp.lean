/- The theory of DiskFuses: one disk with a fuse beside one without. -/
import Derived.Test.YtiobmejnamdneaaBot
namespace Go.Proofs.Ytiobmejnamdneaa
open Go.RowKit Go.Maps

/-- The one with the fuse, behind k acts of which c were done; the other one, which was asked for these c alone. -/
structure Fuses (d o : DS) (steps c : Nat) : Prop where
  rd : d.rd = o.rd
  vs : d.vs = o.vs
  ofu : o.fu = false
  odd : o.dd = false
  dfu : d.fu = true
  dlf : d.lf = ((steps - c : Nat) : Int)
  ddd : d.dd = true → c = steps
  len : d.rd.length = 4
section
variable {d o : DS} {steps c : Nat}
theorem Fuses.alive (h : Fuses d o steps c) (hc : c ≤ steps) : d.alive = decide (c < steps) := by
  unfold DS.alive deadS
  rw [h.dfu, h.dlf]
  cases hd : d.dd with
  | true =>
    have := h.ddd hd
    simp; omega
  | false =>
    simp only [Bool.false_or, Bool.true_and]
    by_cases q : c < steps
    · have : ¬ (((steps - c : Nat) : Int) = 0) := by omega
      simp [q]; omega
    · have : steps - c = 0 := by omega
      simp [q, this]
theorem Fuses.oalive (h : Fuses d o steps c) : o.alive = true := by simp [DS.alive, deadS, h.ofu, h.odd]
theorem Fuses.like (h : Fuses d o steps c) : d.Like o := ⟨h.rd, fun i _ => by unfold DS.last; rw [h.rd, h.vs]⟩
theorem Fuses.refused (h : Fuses d o steps c) (hc : c = steps) : Fuses d.step o steps c ∧ d.step.dd = true := by
  have hd : deadS d.fu d.lf d.dd = true := by
    have := h.alive (by omega)
    unfold DS.alive at this
    have e : decide (c < steps) = false := by simp; omega
    rw [e] at this
    simpa using this
  refine ⟨⟨h.rd, h.vs, h.ofu, h.odd, h.dfu, ?_, fun _ => hc, h.len⟩, hd⟩
  show leftS d.fu d.lf d.dd = _
  unfold leftS
  rw [hd]
  simpa using h.dlf
theorem Fuses.step (h : Fuses d o steps c) (hc : c < steps) : Fuses d.step o.step steps (c + 1) := by
  have hd : deadS d.fu d.lf d.dd = false := by
    have := h.alive (by omega)
    unfold DS.alive at this
    simpa [hc] using this
  have ho : deadS o.fu o.lf o.dd = false := by
    have := h.oalive
    unfold DS.alive at this
    simpa using this
  refine ⟨h.rd, h.vs, h.ofu, ho, h.dfu, ?_, fun q => ?_, h.len⟩
  · show leftS d.fu d.lf d.dd = _
    unfold leftS
    rw [hd, h.dfu, h.dlf]
    simp
    omega
  · have q' : deadS d.fu d.lf d.dd = true := q
    rw [hd] at q'
    cases q'
theorem Fuses.write (h : Fuses d o steps c) (hc : c < steps) (i : Nat) (s : List UInt8) : Fuses (d.write i s) (o.write i s) steps (c + 1) := by
  have h1 := h.step hc
  unfold DS.write
  rw [h.alive (by omega), h.oalive, decide_eq_true hc, if_pos rfl, if_pos rfl, h.vs, h.rd]
  exact ⟨congrArg (fun l => l.set i s) h1.rd, by simp only [DS.put]; rw [h1.vs], h1.ofu, h1.odd, h1.dfu, h1.dlf, h1.ddd, by simp only [DS.put]; rw [List.length_set]; exact h1.len⟩
theorem Fuses.flushed (h : Fuses d o steps c) (hc : c < steps) : Fuses d.flushed o.flushed steps (c + 1) := by
  have h1 := h.step hc
  unfold DS.flushed
  rw [h.alive (by omega), h.oalive, decide_eq_true hc, if_pos rfl, if_pos rfl]
  exact ⟨h1.rd, rfl, h1.ofu, h1.odd, h1.dfu, h1.dlf, h1.ddd, h1.len⟩
theorem Fuses.write_no (h : Fuses d o steps c) (hc : c = steps) (i : Nat) (s : List UInt8) : Fuses (d.write i s) o steps c ∧ (d.write i s).dd = true := by
  have h1 := h.refused hc
  unfold DS.write
  rw [h.alive (by omega)]
  have e : decide (c < steps) = false := by simp; omega
  rw [e]
  exact h1
theorem Fuses.flushed_no (h : Fuses d o steps c) (hc : c = steps) : Fuses d.flushed o steps c ∧ d.flushed.dd = true := by
  have h1 := h.refused hc
  unfold DS.flushed
  rw [h.alive (by omega)]
  have e : decide (c < steps) = false := by simp; omega
  rw [e]
  exact h1
theorem fuses_new (steps : Nat) : Fuses { newD 4 with fu := true, lf := (steps : Int) } (newD 4) steps 0 := ⟨rfl, rfl, rfl, rfl, rfl, by simp, fun q => (by cases q), by simp [newD]⟩
end
/-- Without a fuse; dead. -/
def DS.free (d : DS) : Prop := d.fu = false ∧ d.dd = false
theorem free_alive {d : DS} (h : d.free) : d.alive = true := by simp [DS.alive, deadS, h.1, h.2]
theorem free_step {d : DS} (h : d.free) : d.step.free := ⟨h.1, by simp [DS.step, deadS, h.1, h.2]⟩
theorem free_write {d : DS} (h : d.free) (i : Nat) (s : List UInt8) : (d.write i s).free := by
  unfold DS.write
  rw [free_alive h]
  exact free_step h
theorem free_flushed {d : DS} (h : d.free) : d.flushed.free := by
  unfold DS.flushed
  rw [free_alive h]
  exact free_step h
theorem crash_free {d : DS} (p : List Int) : (d.crash p).free := ⟨rfl, rfl⟩
theorem dead_alive {d : DS} (h : d.dd = true) : d.alive = false := by simp [DS.alive, deadS, h]
theorem dead_write {d : DS} (h : d.dd = true) (i : Nat) (s : List UInt8) : (d.write i s).dd = true := by
  unfold DS.write
  rw [dead_alive h]
  simp [DS.step, deadS, h]
theorem most_new (n N : Nat) : (newD n).most N := fun i => by simp [newD]

end Go.Proofs.Ytiobmejnamdneaa
