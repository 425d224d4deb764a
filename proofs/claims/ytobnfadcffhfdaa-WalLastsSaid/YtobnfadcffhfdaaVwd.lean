/- wal: the least footprint of a disk: no block of records lies in it. -/
import Derived.Test.YtobnfadcffhfdaaVwm
namespace Go.Proofs.Ytobnfadcffhfdaa
open Go.RowKit Go.Maps

theorem blk_kind {w : World} {g : Nat} {t t' : TypeId} {cs cs' : Array Value} (h : Blk w g t cs) (h' : Blk w g t' cs') : t = t' := by
  unfold Blk at h h'
  rw [h] at h'
  injection h' with h'
  injection h'
/-- A disk's footprint made the least: its struct, its sectors, its map, the rows of versions. -/
theorem DAt.tight {w : World} {B g : Nat} {P : Nat → Prop} {d : DS} (h : DAt w B P g d) : ∃ P', DAt w B P' g d ∧ (∀ b, P' b → P b) ∧ ∀ b t cs, P' b → Blk w b t cs → t = 73 ∨ t = 76 := by
  obtain ⟨⟨R, M, D, val, k1⟩, k2⟩ := h
  refine ⟨fun b => b = g ∨ b = R ∨ b = M ∨ ∃ i, i < d.rd.length ∧ d.vs i ≠ [] ∧ (val i).ownBlock = some b, ⟨⟨R, M, D, val, ?_⟩, fun b hb => ?_⟩, fun b hb => ?_, fun b t cs hb hB => ?_⟩
  · exact { k1 with
      fg := .inl rfl
      fR := .inr (.inl rfl)
      fM := .inr (.inr (.inl rfl))
      own := fun i b hi hv hb => ⟨.inr (.inr (.inr ⟨i, hi, hv, hb⟩)), (k1.own i b hi hv hb).2⟩ }
  · rcases hb with rfl | rfl | rfl | ⟨i, hi, hv, hb⟩
    · exact k2 _ k1.fg
    · exact k2 _ k1.fR
    · exact k2 _ k1.fM
    · exact k2 _ (k1.own i b hi hv hb).1
  · rcases hb with rfl | rfl | rfl | ⟨i, hi, hv, hb⟩
    · exact k1.fg
    · exact k1.fR
    · exact k1.fM
    · exact (k1.own i b hi hv hb).1
  · rcases hb with rfl | rfl | rfl | ⟨i, hi, hv, hb⟩
    · exact .inl (blk_kind hB k1.blk)
    · exact .inr (blk_kind hB k1.red)
    · exfalso
      obtain ⟨es, clock, hb, _⟩ := k1.map
      unfold Blk at hB
      rw [hb] at hB
      cases hB
    · right
      rcases (k1.row i hi hv).2 with ⟨q, _⟩ | ⟨b', cap, cur, q, _, hbb, _⟩
      · rw [q] at hb
        simp [Value.ownBlock] at hb
      · rw [q] at hb
        have hb2 : b' = b := by simpa [Value.ownBlock] using hb
        subst hb2
        exact blk_kind hB hbb
/-- A step without a block of the disk leaves records. -/
theorem RecAt.far {w w' : World} {P : Nat → Prop} {b off : Nat} {r : List Chg} (h : RecAt w b off r) (f : Fr P w w') (hP : ¬ P b) : RecAt w' b off r := h.keep f hP
end Go.Proofs.Ytobnfadcffhfdaa
