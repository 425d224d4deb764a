/- The writer of package wire: what each of its methods does to it. -/
import Derived.Test.YtmjkcjllpnpgpaaBase
import Derived.Test.YtmjkcjllpnpgpaaRows
import Derived.BigQuiet
import Derived.Deep.QuietTactic
namespace Go.Proofs.Ytmjkcjllpnpgpaa
open Go.RowKit

theorem infoU8 : (Try.prog.info? 5).map (fun i => (i.zero, i.size, i.bytes)) = some (some (.int .u8 0), 1, 1) := by kernel_rfl

/-- In block g stands a writer that has put l (f: it failed), in a row of its own, from block B on. -/
structure Wr (w : World) (B g : Nat) (v : Value) (l : List UInt8) (f : Bool) : Prop where
  blk : Blk w g 28 #[v, .bool f]
  own : w.ownsRow B 5 1 v l.length (cellsB l)
  base : B ≤ g
  gone : f = true → l = []

/-- A writer's blocks. -/
def WrF (g : Nat) (v : Value) (k : Nat) : Prop := k = g ∨ v.ownBlock = some k

theorem Wr.keep {F : Nat → Prop} {w w' : World} {B g : Nat} {v : Value} {l : List UInt8} {f : Bool} (h : Wr w B g v l f) (hf : Fr F w w') (hF : ∀ k, WrF g v k → ¬ F k) : Wr w' B g v l f :=
  ⟨h.blk.keep hf (hF g (.inl rfl)), own_keep h.own hf (fun k hk => hF k (.inr hk)), h.base, h.gone⟩

theorem fail_nil (w : World) : Calls Try.prog 52 #[.pointer none] w fun e w' => e = .returned (.pointer none) ∧ w = w' := by
  go_enter Try.func52, Try.ntmps52
  go_wp2
  go_ret
  exact ⟨rfl, rfl⟩

theorem fail_any {w : World} {B g : Nat} {v : Value} {l : List UInt8} {f : Bool} (h : Wr w B g v l f) :
    Calls Try.prog 52 #[.pointer (some ⟨g, 0, none⟩)] w fun e w' => e = .returned (.pointer (some ⟨g, 0, none⟩)) ∧ Wr w' B g (.slice none 0 0) [] true ∧ Fr (fun k => k = g) w w' := by
  have h0 := h.blk.cell 0
  have h1 := h.blk.cell 1
  have f0 := h.blk.frozen 0
  have f1 := h.blk.frozen 1
  simp at h0 h1
  go_enter Try.func52, Try.ntmps52
  go_wp2
  go_ret
  refine ⟨rfl, ⟨?_, World.ownsRow_nil _ _ _ _, h.base, fun _ => rfl⟩, ?_⟩
  · exact (h.blk.set_ 0 _).set_ 1 _
  · exact ((Fr.refl (fun k => k = g) w).setCell (p := ⟨g, 0, none⟩) (.inl rfl) _).setCell (p := ⟨g, 1, none⟩) (.inl rfl) _

theorem bytes_nil (w : World) (A : Option Addr) (n c : Nat) : Calls Try.prog 45 #[.pointer none, .slice A n c] w fun e w' => e = .returned (.pointer none) ∧ w = w' := by
  go_enter Try.func45, Try.ntmps45
  go_wp2
  go_ret
  exact ⟨rfl, rfl⟩

theorem bytes_failed {w : World} {B g : Nat} {v : Value} {l : List UInt8} (h : Wr w B g v l true) (A : Option Addr) (n c : Nat) :
    Calls Try.prog 45 #[.pointer (some ⟨g, 0, none⟩), .slice A n c] w fun e w' => e = .returned (.pointer (some ⟨g, 0, none⟩)) ∧ w = w' := by
  have h0 := h.blk.cell 0
  have h1 := h.blk.cell 1
  simp at h0 h1
  go_enter Try.func45, Try.ntmps45
  go_wp2
  go_ret
  exact ⟨rfl, rfl⟩

set_option maxHeartbeats 400000 in
theorem bytes_any {w : World} {B g : Nat} {v : Value} {xs : List UInt8} (h : Wr w B g v xs false) {A : Option Addr} {n c : Nat} {l : List UInt8} (hr : Rd w A n l) (hb : xs.length + n ≤ 140737488355328) :
    Calls Try.prog 45 #[.pointer (some ⟨g, 0, none⟩), .slice A n c] w fun e w' => e = .returned (.pointer (some ⟨g, 0, none⟩)) ∧
      ∃ v', Wr w' B g v' (xs ++ l) false ∧ Fr (WrF g v) w w' ∧ (v'.ownBlock = v.ownBlock ∨ v'.ownBlock = some w.heap.size) := by
  obtain ⟨i0, hi, hz0, hz1, hz2⟩ := info_parts infoU8
  have h0 := h.blk.cell 0
  have h1 := h.blk.cell 1
  simp at h0 h1
  have hlt := h.blk.lt
  have hbase := h.base
  go_enter Try.func45, Try.ntmps45
  go_wp2_with (at_builtin; refine wpList_append_bytes _ rfl _ _ 26 rfl B 5 i0 (.int .u8 0) Try.underlying26 hi hz0 hz1 hz2 rfl v xs l rfl h.own A n c rfl hr hb (by omega) ?_; intro v' w' hown hgrow hat; obtain ⟨A', n', c', rfl⟩ := own_form hown; have hF : Fr (WrF g v) w w' := (Fr.refl _ _).grown hgrow (fun k hk => .inl (.inr hk)); have hgo : v.ownBlock ≠ some g := own_ne h.own h.blk (by decide); have hb' : Blk w' g _ #[v, .bool false] := (hgrow.block g hlt (fun e => hgo e.symm)).trans h.blk; have h0' := hb'.cell 0; have f0' := hb'.frozen 0; simp at h0')
  go_ret
  refine ⟨rfl, .slice A' n' c', ⟨hb'.set_ 0 _, ?_, hbase, fun h => by cases h⟩, hF.setCell (p := ⟨g, 0, none⟩) (.inl (.inl rfl)) _, hat⟩
  have hlt' := hb'.lt
  exact own_keep hown ((Fr.refl (fun k => k = g) w').setCell (p := ⟨g, 0, none⟩) (.inl rfl) _) (fun k hk e => own_ne hown hb' (by decide) (by rw [hk, e]))
end Go.Proofs.Ytmjkcjllpnpgpaa
