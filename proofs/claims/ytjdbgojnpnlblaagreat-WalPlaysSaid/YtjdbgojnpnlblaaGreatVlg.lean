/- wal: a log in memory; what it is asked. -/
import Derived.Test.YtjdbgojnpnlblaaGreatVrj
namespace Go.Proofs.YtjdbgojnpnlblaaGreat
open Go.RowKit

abbrev logC (g z c s used many : Nat) (dd : Bool) : Array Value := #[.pointer (some ⟨g, 0, none⟩), .int .i64 (z : Nat), .int .u64 (c : Nat), .int .u64 (s : Nat), .int .i64 (used : Nat), .int .i64 (many : Nat), .bool dd]
abbrev LgW (w : World) (lb g z c s used many : Nat) (dd : Bool) : Prop := Blk w lb 84 (logC g z c s used many dd)
section
variable {w : World} {lb g z c s used many : Nat} {dd : Bool} {p : Value}
theorem lg_cells (h : LgW w lb g z c s used many dd) : (w.cell? ⟨lb, 0, none⟩ = some (.pointer (some ⟨g, 0, none⟩)) ∧ w.cell? ⟨lb, 1, none⟩ = some (.int .i64 (z : Nat)) ∧ w.cell? ⟨lb, 2, none⟩ = some (.int .u64 (c : Nat)) ∧ w.cell? ⟨lb, 3, none⟩ = some (.int .u64 (s : Nat)) ∧ w.cell? ⟨lb, 4, none⟩ = some (.int .i64 (used : Nat)) ∧ w.cell? ⟨lb, 5, none⟩ = some (.int .i64 (many : Nat)) ∧ w.cell? ⟨lb, 6, none⟩ = some (.bool dd)) ∧ ∀ i, w.frozen? ⟨lb, i, none⟩ = false := by
  refine ⟨⟨?_, ?_, ?_, ?_, ?_, ?_, ?_⟩, fun i => h.frozen i⟩ <;> rw [h.cell] <;> rfl
theorem lnone_any (h : LgW w lb g z c s used many dd) : Calls Tryz.prog 57 #[.pointer (some ⟨lb, 0, none⟩)] w fun e w' => e = .returned (.bool false) ∧ w = w' := by
  obtain ⟨⟨c0, _⟩, _⟩ := lg_cells h
  clear h
  go_enter Tryz.func57, Tryz.ntmps57
  go_wp2_with fail
  go_ret
  exact ⟨rfl, rfl⟩
theorem lnone_nil (w : World) : Calls Tryz.prog 57 #[.pointer none] w fun e w' => e = .returned (.bool true) ∧ w = w' := by
  go_enter Tryz.func57, Tryz.ntmps57
  go_wp2_with fail
  go_ret
  exact ⟨rfl, rfl⟩
theorem lnone_zero {b : Nat} (c0 : w.cell? ⟨b, 0, none⟩ = some (.pointer none)) : Calls Tryz.prog 57 #[.pointer (some ⟨b, 0, none⟩)] w fun e w' => e = .returned (.bool true) ∧ w = w' := by
  go_enter Tryz.func57, Tryz.ntmps57
  go_wp2_with fail
  go_ret
  exact ⟨rfl, rfl⟩
theorem lcount_any (h : LgW w lb g z c s used many dd) : Calls Tryz.prog 18 #[.pointer (some ⟨lb, 0, none⟩)] w fun e w' => e = .returned (.int .u64 (c : Nat)) ∧ w' = w := by
  have HN := Lib.hid (lnone_any h)
  obtain ⟨⟨c0, c1, c2, c3, c4, c5, c6⟩, _⟩ := lg_cells h
  clear h
  skip
  go_enter Tryz.func18, Tryz.ntmps18
  go_wp2_with (go_at_call 57; refine HN.out.mono ?_; rintro e w' ⟨rfl, rfl⟩)
  skip
  go_ret
  exact ⟨rfl, rfl⟩
theorem lcount_none (hN : Calls Tryz.prog 57 #[p] w fun e w' => e = .returned (.bool true) ∧ w = w') : Calls Tryz.prog 18 #[p] w fun e w' => e = .returned (.int .u64 0) ∧ w = w' := by
  have HN := Lib.hid hN
  clear hN
  go_enter Tryz.func18, Tryz.ntmps18
  go_wp2_with (go_at_call 57; refine HN.out.mono ?_; rintro e w' ⟨rfl, rfl⟩)
  go_ret
  exact ⟨rfl, rfl⟩
theorem lsince_any (h : LgW w lb g z c s used many dd) : Calls Tryz.prog 19 #[.pointer (some ⟨lb, 0, none⟩)] w fun e w' => e = .returned (.int .u64 (s : Nat)) ∧ w' = w := by
  have HN := Lib.hid (lnone_any h)
  obtain ⟨⟨c0, c1, c2, c3, c4, c5, c6⟩, _⟩ := lg_cells h
  clear h
  skip
  go_enter Tryz.func19, Tryz.ntmps19
  go_wp2_with (go_at_call 57; refine HN.out.mono ?_; rintro e w' ⟨rfl, rfl⟩)
  skip
  go_ret
  exact ⟨rfl, rfl⟩
theorem lsince_none (hN : Calls Tryz.prog 57 #[p] w fun e w' => e = .returned (.bool true) ∧ w = w') : Calls Tryz.prog 19 #[p] w fun e w' => e = .returned (.int .u64 0) ∧ w = w' := by
  have HN := Lib.hid hN
  clear hN
  go_enter Tryz.func19, Tryz.ntmps19
  go_wp2_with (go_at_call 57; refine HN.out.mono ?_; rintro e w' ⟨rfl, rfl⟩)
  go_ret
  exact ⟨rfl, rfl⟩
theorem llen_any (h : LgW w lb g z c s used many dd) : Calls Tryz.prog 20 #[.pointer (some ⟨lb, 0, none⟩)] w fun e w' => e = .returned (.int .i64 (many : Nat)) ∧ w' = w := by
  have HN := Lib.hid (lnone_any h)
  obtain ⟨⟨c0, c1, c2, c3, c4, c5, c6⟩, _⟩ := lg_cells h
  clear h
  skip
  go_enter Tryz.func20, Tryz.ntmps20
  go_wp2_with (go_at_call 57; refine HN.out.mono ?_; rintro e w' ⟨rfl, rfl⟩)
  skip
  go_ret
  exact ⟨rfl, rfl⟩
theorem llen_none (hN : Calls Tryz.prog 57 #[p] w fun e w' => e = .returned (.bool true) ∧ w = w') : Calls Tryz.prog 20 #[p] w fun e w' => e = .returned (.int .i64 0) ∧ w = w' := by
  have HN := Lib.hid hN
  clear hN
  go_enter Tryz.func20, Tryz.ntmps20
  go_wp2_with (go_at_call 57; refine HN.out.mono ?_; rintro e w' ⟨rfl, rfl⟩)
  go_ret
  exact ⟨rfl, rfl⟩
theorem lroom_any (h : LgW w lb g z c s used many dd) (hz : used ≤ z) (hz9 : z ≤ 4000) : Calls Tryz.prog 21 #[.pointer (some ⟨lb, 0, none⟩)] w fun e w' => e = .returned (.int .i64 ((z - used : Nat) : Int)) ∧ w' = w.drew := by
  have HN := Lib.hid (lnone_any h)
  obtain ⟨⟨c0, c1, c2, c3, c4, c5, c6⟩, _⟩ := lg_cells h
  clear h
  have hw : (z : Int) - (used : Int) = ((z - used : Nat) : Int) := by omega
  go_enter Tryz.func21, Tryz.ntmps21
  go_wp2_with (go_at_call 57; refine HN.out.mono ?_; rintro e w' ⟨rfl, rfl⟩)
  go_region; go_wp2_with fail
  go_ret
  exact ⟨rfl, rfl⟩
theorem lroom_none (hN : Calls Tryz.prog 57 #[p] w fun e w' => e = .returned (.bool true) ∧ w = w') : Calls Tryz.prog 21 #[p] w fun e w' => e = .returned (.int .i64 0) ∧ w = w' := by
  have HN := Lib.hid hN
  clear hN
  go_enter Tryz.func21, Tryz.ntmps21
  go_wp2_with (go_at_call 57; refine HN.out.mono ?_; rintro e w' ⟨rfl, rfl⟩)
  go_ret
  exact ⟨rfl, rfl⟩
theorem ldead_any (h : LgW w lb g z c s used many dd) : Calls Tryz.prog 23 #[.pointer (some ⟨lb, 0, none⟩)] w fun e w' => e = .returned (.bool dd) ∧ w' = w := by
  have HN := Lib.hid (lnone_any h)
  obtain ⟨⟨c0, c1, c2, c3, c4, c5, c6⟩, _⟩ := lg_cells h
  clear h
  skip
  go_enter Tryz.func23, Tryz.ntmps23
  go_wp2_with (go_at_call 57; refine HN.out.mono ?_; rintro e w' ⟨rfl, rfl⟩)
  skip
  go_ret
  exact ⟨rfl, rfl⟩
theorem ldead_none (hN : Calls Tryz.prog 57 #[p] w fun e w' => e = .returned (.bool true) ∧ w = w') : Calls Tryz.prog 23 #[p] w fun e w' => e = .returned (.bool false) ∧ w = w' := by
  have HN := Lib.hid hN
  clear hN
  go_enter Tryz.func23, Tryz.ntmps23
  go_wp2_with (go_at_call 57; refine HN.out.mono ?_; rintro e w' ⟨rfl, rfl⟩)
  go_ret
  exact ⟨rfl, rfl⟩
theorem refuses_any (h : LgW w lb g z c s used many dd) : Calls Tryz.prog 63 #[.pointer (some ⟨lb, 0, none⟩)] w fun e w' => e = .returned (.int .i64 (if dd then 10 else 0)) ∧ w = w' := by
  have HN := Lib.hid (lnone_any h)
  obtain ⟨⟨c0, c1, c2, c3, c4, c5, c6⟩, _⟩ := lg_cells h
  clear h
  cases dd
  all_goals
    go_enter Tryz.func63, Tryz.ntmps63
    go_wp2_with (go_at_call 57; refine HN.out.mono ?_; rintro e w' ⟨rfl, rfl⟩)
    go_ret
    exact ⟨rfl, rfl⟩
theorem refuses_none (hN : Calls Tryz.prog 57 #[p] w fun e w' => e = .returned (.bool true) ∧ w = w') : Calls Tryz.prog 63 #[p] w fun e w' => e = .returned (.int .i64 1) ∧ w = w' := by
  have HN := Lib.hid hN
  clear hN
  go_enter Tryz.func63, Tryz.ntmps63
  go_wp2_with (go_at_call 57; refine HN.out.mono ?_; rintro e w' ⟨rfl, rfl⟩)
  go_ret
  exact ⟨rfl, rfl⟩
theorem trunc_none (hN : Calls Tryz.prog 57 #[p] w fun e w' => e = .returned (.bool true) ∧ w = w') : Calls Tryz.prog 30 #[p] w fun e w' => e = .returned (.int .i64 1) ∧ w = w' := by
  have HN := Lib.hid (refuses_none hN)
  clear hN
  go_enter Tryz.func30, Tryz.ntmps30
  go_wp2_with (go_at_call 63; refine HN.out.mono ?_; rintro e w' ⟨rfl, rfl⟩)
  go_ret
  exact ⟨rfl, rfl⟩
theorem commit_none {v : Value} (hN : Calls Tryz.prog 57 #[p] w fun e w' => e = .returned (.bool true) ∧ w = w') : Calls Tryz.prog 34 #[p, v] w fun e w' => e = .returned (.int .i64 1) ∧ w = w' := by
  have HN := Lib.hid (refuses_none hN)
  clear hN
  go_enter Tryz.func34, Tryz.ntmps34
  go_wp2_with (go_at_call 63; refine HN.out.mono ?_; rintro e w' ⟨rfl, rfl⟩)
  go_ret
  exact ⟨rfl, rfl⟩
/-- The log's own settle. -/
theorem lsettle_any {B : Nat} {P : Nat → Prop} {d : DS} {v : Value} {ss : List (List UInt8)} (h : LgW w lb g z c s used many dd) (hlb : ¬ P lb) (hd : DAt w B P g d) {i : Nat} (hv : SecV w v ss) (hvP : ∀ b, v.ownBlock = some b → ¬ P b) (hi : i + ss.length ≤ d.rd.length) (hN : ∀ j, (d.vs j).length ≤ 10000) :
    Calls Tryz.prog 40 #[.pointer (some ⟨lb, 0, none⟩), .int .i64 i, v] w fun e w' => e = .returned (.int .i64 (if d.settles i ss then 0 else 10)) ∧ LgW w' lb g z c s used many (!d.settles i ss) ∧ (∃ P', DAt w' B P' g (d.settle i ss) ∧ ∀ b, P' b → P b ∨ w.heap.size ≤ b) ∧ Fr (fun b => P b ∨ b = lb) w w' := by
  obtain ⟨⟨c0, c1, c2, c3, c4, c5, c6⟩, hfz⟩ := lg_cells h
  have hlt := h.lt
  have HS := Lib.hid (settle_any hd hv hvP hi hd.len.2 hN)
  have HH := Lib.hid (And.intro h hlb)
  have hPl : ∀ b, P b → b ≠ lb := fun b hb e => hlb (e ▸ hb)
  obtain ⟨st, hst⟩ : ∃ st, st = d.settles i ss := ⟨_, rfl⟩
  rw [← hst] at HS ⊢
  have HP := Lib.hid hPl
  clear h hlb hd hv hvP hi hN hPl hst c1 c2 c3 c4 c5 c6 hfz
  have HK : Hid (∀ w', Fr P w w' → LgW w' lb g z c s used many dd) := Lib.hid fun w' f => HH.out.1.keep f HH.out.2
  cases st
  · go_enter Tryz.func40, Tryz.ntmps40
    go_wp2_with fail
    refine HS.out.mono ?_
    rintro e w2 ⟨rfl, ⟨P', hp1, hp2⟩, hf2⟩
    have hl2 := HK.out w2 hf2
    obtain ⟨⟨_, _, _, _, _, _, e6⟩, hfz⟩ := lg_cells hl2
    have f6 := hfz 6
    have H2 := Lib.hid (And.intro hp1 (And.intro hp2 (And.intro hf2 hl2)))
    clear hp1 hp2 hf2 hl2 hfz c0
    go_wp2_with fail
    go_ret
    have fB : ∀ u, Fr (fun b => b = lb) w2 (w2.setCell ⟨lb, 6, none⟩ u) := fun u => (Fr.refl (fun b => b = lb) w2).setCell (p := ⟨lb, 6, none⟩) (.inl rfl) u
    refine ⟨rfl, ?_, ⟨P', H2.out.1.keep (fB _) (fun b hb e => ?_), H2.out.2.1⟩, (H2.out.2.2.1.mono (fun _ _ q => .inl q)).trans (fB _) (fun _ _ q => .inr q)⟩
    · have := H2.out.2.2.2.set_ 6 (.bool true)
      simpa [logC] using this
    · rcases H2.out.2.1 b hb with q | q
      · exact HP.out b q e
      · omega
  · go_enter Tryz.func40, Tryz.ntmps40
    go_wp2_with fail
    refine HS.out.mono ?_
    rintro e w2 ⟨rfl, ⟨P', hp1, hp2⟩, hf2⟩
    have hl2 := HK.out w2 hf2
    obtain ⟨⟨_, _, _, _, _, _, e6⟩, hfz⟩ := lg_cells hl2
    have f6 := hfz 6
    have H2 := Lib.hid (And.intro hp1 (And.intro hp2 (And.intro hf2 hl2)))
    clear hp1 hp2 hf2 hl2 hfz c0
    go_wp2_with fail
    go_ret
    have fB : ∀ u, Fr (fun b => b = lb) w2 (w2.setCell ⟨lb, 6, none⟩ u) := fun u => (Fr.refl (fun b => b = lb) w2).setCell (p := ⟨lb, 6, none⟩) (.inl rfl) u
    refine ⟨rfl, ?_, ⟨P', H2.out.1.keep (fB _) (fun b hb e => ?_), H2.out.2.1⟩, (H2.out.2.2.1.mono (fun _ _ q => .inl q)).trans (fB _) (fun _ _ q => .inr q)⟩
    · have := H2.out.2.2.2.set_ 6 (.bool false)
      simpa [logC] using this
    · rcases H2.out.2.1 b hb with q | q
      · exact HP.out b q e
      · omega
end
end Go.Proofs.YtjdbgojnpnlblaaGreat
