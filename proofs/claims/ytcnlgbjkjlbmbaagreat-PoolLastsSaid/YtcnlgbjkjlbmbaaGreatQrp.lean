/- couponref06: a pool in memory; Settle, Ask. -/
import Derived.Test.YtcnlgbjkjlbmbaaGreatQin
namespace Go.Proofs.YtcnlgbjkjlbmbaaGreat
open Go.RowKit

abbrev RpB (w : World) (r : Nat) (vp vc vd vl : Value) (fr z room : Int) : Prop := Blk w r 79 #[vp, vc, vd, vl, .int .i64 fr, .int .i64 z, .int .i64 room]
def PgsV (w : World) (v : Value) (l : List (List UInt8)) : Prop := ∃ A c, v = .slice A l.length c ∧ l.length ≤ c ∧ c ≤ maxLen ∧ (∀ x ∈ l, x.length = 512) ∧ (0 < l.length → ∃ b off, A = some ⟨b, off, none⟩ ∧ ∀ i x, l[i]? = some x → w.rangeAt b (off + i * 512) (cellsB x))
section
variable {w w' : World} {r : Nat} {vp vc vd vl v : Value} {fr z room : Int} {l : List (List UInt8)}
theorem PgsV.keep {F : Nat → Prop} (h : PgsV w v l) (f : Fr F w w') (hF : ∀ b, v.ownBlock = some b → ¬ F b) : PgsV w' v l := by
 obtain ⟨A, c, rfl, h1, h2, h3, h4⟩ := h
 refine ⟨A, c, rfl, h1, h2, h3, fun h0 => ?_⟩
 obtain ⟨b, off, rfl, h5⟩ := h4 h0
 exact ⟨b, off, rfl, fun i x hx j u hu => (f.cell (World.block_lt_of_cell? w _ (h5 i x hx j u hu)) (hF b rfl)).trans (h5 i x hx j u hu)⟩
theorem PgsV.new (h : PgsV w v l) (f : Fr (fun _ => False) w w') : PgsV w' v l := h.keep f (fun _ _ q => q)
theorem PgsV.at_ (h : PgsV w v l) {i : Nat} {x : List UInt8} (hi : l[i]? = some x) : ∃ b off c, v = .slice (some ⟨b, off, none⟩) l.length c ∧ w.rangeAt b (off + i * 512) (cellsB x) ∧ x.length = 512 := by
 obtain ⟨A, c, rfl, _, _, h3, h4⟩ := h
 obtain ⟨b, off, rfl, h5⟩ := h4 (by have := (List.getElem?_eq_some_iff.1 hi).1; omega)
 exact ⟨b, off, c, rfl, h5 i x hi, h3 x (List.mem_of_getElem? hi)⟩
theorem rp_cells (h : RpB w r vp vc vd vl fr z room) : w.cell? ⟨r, 0, none⟩ = some vp ∧ w.cell? ⟨r, 1, none⟩ = some vc ∧ w.cell? ⟨r, 2, none⟩ = some vd ∧ w.cell? ⟨r, 3, none⟩ = some vl ∧ w.cell? ⟨r, 4, none⟩ = some (.int .i64 fr) ∧ w.cell? ⟨r, 5, none⟩ = some (.int .i64 z) ∧ w.cell? ⟨r, 6, none⟩ = some (.int .i64 room) := by
 have h0 := h.cell 0
 have h1 := h.cell 1
 have h2 := h.cell 2
 have h3 := h.cell 3
 have h4 := h.cell 4
 have h5 := h.cell 5
 have h6 := h.cell 6
 simp only [List.getElem?_toArray, List.getElem?_cons_zero, List.getElem?_cons_succ] at h0 h1 h2 h3 h4 h5 h6
 exact ⟨h0, h1, h2, h3, h4, h5, h6⟩
theorem rp_set (h : RpB w r vp vc vd vl fr z room) (i : Nat) (u : Value) : Blk (w.setCell ⟨r, i, none⟩ u) r 79 (#[vp, vc, vd, vl, .int .i64 fr, .int .i64 z, .int .i64 room].setIfInBounds i u) ∧ Fr (fun b => b = r) w (w.setCell ⟨r, i, none⟩ u) := ⟨h.set_ i u, (Fr.refl (fun b => b = r) w).setCell (p := ⟨r, i, none⟩) (.inl rfl) u⟩
set_option maxRecDepth 100000 in
theorem rsettle6_any (h : RpB w r vp vc vd vl fr z room) : Calls Tryz.prog 39 #[.pointer (some ⟨r, 0, none⟩)] w fun e w' => e = .returned (.tuple #[]) ∧ RpB w' r vp vc (.slice none 0 0) vl fr z z ∧ Fr (fun b => b = r) w w' := by
 obtain ⟨s1, f1⟩ := rp_set h 2 (.slice none 0 0)
 have s1' : RpB (w.setCell ⟨r, 2, none⟩ (.slice none 0 0)) r vp vc (.slice none 0 0) vl fr z room := s1
 obtain ⟨s2, f2⟩ := rp_set s1' 6 (.int .i64 z)
 have k5 := (rp_cells s1').2.2.2.2.2.1
 have z2 := h.frozen 2
 have z6 := s1'.frozen 6
 have HE : Hid (RpB ((w.setCell ⟨r, 2, none⟩ (.slice none 0 0)).setCell ⟨r, 6, none⟩ (.int .i64 z)) r vp vc (.slice none 0 0) vl fr z z ∧ Fr (fun b => b = r) w ((w.setCell ⟨r, 2, none⟩ (.slice none 0 0)).setCell ⟨r, 6, none⟩ (.int .i64 z))) := Lib.hid ⟨s2, f1.trans f2 (fun _ _ q => q)⟩
 obtain ⟨k0, k1, k2, k3, k4, _, k6⟩ := rp_cells h
 clear h s1 f1 s1' s2 f2
 go_enter Tryz.func39, Tryz.ntmps39
 go_wp2_with fail
 refine bodyPost_end (results_none rfl _ _ _) rfl ?_
 exact ⟨rfl, HE.out⟩
end
end Go.Proofs.YtcnlgbjkjlbmbaaGreat

