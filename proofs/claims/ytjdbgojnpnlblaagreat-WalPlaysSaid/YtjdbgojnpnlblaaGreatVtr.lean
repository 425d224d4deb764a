/- wal: Truncate. -/
import Derived.Test.YtjdbgojnpnlblaaGreatVlg
namespace Go.Proofs.YtjdbgojnpnlblaaGreat
open Go.RowKit

section
variable {w : World} {lb g z c s used many B : Nat} {P : Nat → Prop} {d : DS}
theorem ltrunc_dead (h : LgW w lb g z c s used many true) : Calls Tryz.prog 30 #[.pointer (some ⟨lb, 0, none⟩)] w fun e w' => e = .returned (.int .i64 10) ∧ w = w' := by
  have HN := Lib.hid (refuses_any h)
  clear h
  go_enter Tryz.func30, Tryz.ntmps30
  go_wp2_with (go_at_call 63; refine HN.out.mono ?_; rintro e w' ⟨rfl, rfl⟩)
  go_ret
  exact ⟨rfl, rfl⟩
set_option maxRecDepth 100000 in
set_option maxHeartbeats 1000000 in
theorem ltrunc_full (h : LgW w lb g z maxC s used many false) : Calls Tryz.prog 30 #[.pointer (some ⟨lb, 0, none⟩)] w fun e w' => e = .returned (.int .i64 8) ∧ Fr (fun _ => False) w w' := by
  have HN := Lib.hid (refuses_any h)
  obtain ⟨cc, hcc⟩ : ∃ cc : Nat, cc = maxC := ⟨_, rfl⟩
  rw [← hcc] at h
  obtain ⟨⟨c0, c1, c2, c3, c4, c5, c6⟩, _⟩ := lg_cells h
  have HC := Lib.hid hcc
  clear h hcc
  go_enter Tryz.func30, Tryz.ntmps30
  go_wp2_with (go_at_call 63; refine HN.out.mono ?_; rintro e w' ⟨rfl, rfl⟩)
  refine (trunc_full w cc s HC.out).mono ?_
  rintro e w2 ⟨rfl, f2⟩
  have HF := Lib.hid f2
  clear f2 c0 c1 c2 c3 c4 c5 c6 HN
  go_wp2_with fail
  go_ret
  exact ⟨rfl, HF.out.alloc _⟩
set_option maxRecDepth 100000 in
set_option maxHeartbeats 2000000 in
theorem ltrunc_any (h : LgW w lb g z c s used many false) (hlb : ¬ P lb) (hd : DAt w B P g d) (hc : c < maxC) (hs : s ≤ maxC) (hN : ∀ j, (d.vs j).length ≤ 10000) : Calls Tryz.prog 30 #[.pointer (some ⟨lb, 0, none⟩)] w fun e w' =>
    e = .returned (.int .i64 (if d.settles 0 [hdS (c + 1) (c + 1)] then 0 else 10)) ∧ (if d.settles 0 [hdS (c + 1) (c + 1)] then LgW w' lb g z (c + 1) (c + 1) 0 0 false else LgW w' lb g z c s used many true) ∧
    (∃ P', DAt w' B P' g (d.settle 0 [hdS (c + 1) (c + 1)]) ∧ ∀ b, P' b → P b ∨ w.heap.size ≤ b) ∧ Fr (fun b => P b ∨ b = lb) w w' := by
  have HN := Lib.hid (refuses_any h)
  obtain ⟨⟨c0, c1, c2, c3, c4, c5, c6⟩, _⟩ := lg_cells h
  have HH := Lib.hid (And.intro h (And.intro hlb (And.intro hd (And.intro hc (And.intro hs hN)))))
  have hlt := h.lt
  obtain ⟨st, hst⟩ : ∃ st, st = d.settles 0 [hdS (c + 1) (c + 1)] := ⟨_, rfl⟩
  rw [← hst]
  have HST := Lib.hid hst
  clear h hlb hd hc hs hN hst
  go_enter Tryz.func30, Tryz.ntmps30
  go_wp2_with (go_at_call 63; refine HN.out.mono ?_; rintro e w' ⟨rfl, rfl⟩)
  refine (trunc_any w c s HH.out.2.2.2.1 HH.out.2.2.2.2.1).mono ?_
  rintro e w2 ⟨rfl, f2⟩
  have HF := Lib.hid f2
  clear f2 c0 c1 c2 c3 c4 c5 c6 HN
  go_wp2_with fail
  refine (sector_one _ HH.out.2.2.2.1).mono ?_
  rintro e w5 ⟨rfl, f5⟩
  have f5' := (HF.out.alloc (.cells #[.int .u64 ((c : Int) + 1), .int .u64 ((c : Int) + 1)] 78)).trans f5 (fun _ _ q => q)
  have f6 := f5'.alloc (.cells (cellsB (hdS (c + 1) (c + 1))).toArray 45)
  have hb6 := Blk.new w5 45 (cellsB (hdS (c + 1) (c + 1))).toArray
  have hb4 := (Blk.new w2 78 #[.int .u64 ((c : Int) + 1), .int .u64 ((c : Int) + 1)]).keep (f5.alloc (.cells (cellsB (hdS (c + 1) (c + 1))).toArray 45)) (fun q => q)
  have hz2 := HF.out.size
  have HS := Lib.hid (lsettle_any (HH.out.1.keep f6 (fun q => q)) HH.out.2.1 (HH.out.2.2.1.new f6) (i := 0) (SecV.one hb6 (hdS_len _ _)) (fun b hb q => by
    injection hb with hb
    have h1 := (HH.out.2.2.1.2 b q).2
    have h2 := f5'.size
    simp at hb
    omega) (by have := HH.out.2.2.1.len; simp; omega) HH.out.2.2.2.2.2)
  have HF6 := Lib.hid (And.intro f6 hb4)
  have hg2 : ¬ (P w2.heap.size ∨ w2.heap.size = lb) := by
    rintro (q | q)
    · have := (HH.out.2.2.1.2 _ q).2; omega
    · omega
  rw [← HST.out] at HS
  clear f5 f5' f6 hb6 hb4 HF
  go_wp2_with (refine wpList_build_sec rfl _ rfl (hdS_len (c + 1) (c + 1)) rfl ?_)
  cases st with
  | false =>
    refine HS.out.mono ?_
    rintro e w7 ⟨rfl, h7, ⟨P', h8, h9⟩, f7⟩
    have H7 := Lib.hid (And.intro h7 (And.intro h8 (And.intro h9 f7)))
    clear h7 h8 h9 f7 HS
    go_wp2_with fail
    go_ret
    refine ⟨rfl, by simpa using H7.out.1, ⟨P', H7.out.2.1, fun b hb => (H7.out.2.2.1 b hb).imp id (fun q => Nat.le_trans HF6.out.1.size q)⟩, (HF6.out.1.mono (fun _ _ q => q.elim)).trans H7.out.2.2.2 (fun _ _ q => q)⟩
  | true =>
    refine HS.out.mono ?_
    rintro e w7 ⟨rfl, h7, ⟨P', h8, h9⟩, f7⟩
    have hb7 := HF6.out.2.keep f7 hg2
    have e0 := hb7.cell 0
    have e1 := hb7.cell 1
    simp at e0 e1
    obtain ⟨⟨d0, d1, d2, d3, d4, d5, d6⟩, hfz⟩ := lg_cells h7
    have z2 := hfz 2
    have z3 := hfz 3
    have z4 := hfz 4
    have z5 := hfz 5
    have H7 := Lib.hid (And.intro h7 (And.intro h8 (And.intro h9 f7)))
    clear h7 h8 h9 f7 HS hb7 hfz d0 d1 d6
    go_wp2_with fail
    go_ret
    have fB : ∀ u2 u3 u5 u4, Fr (fun b => b = lb) w7 ((((w7.setCell ⟨lb, 2, none⟩ u2).setCell ⟨lb, 3, none⟩ u3).setCell ⟨lb, 5, none⟩ u5).setCell ⟨lb, 4, none⟩ u4) := fun u2 u3 u5 u4 =>
      ((((Fr.refl (fun b => b = lb) w7).setCell (p := ⟨lb, 2, none⟩) (.inl rfl) u2).setCell (p := ⟨lb, 3, none⟩) (.inl rfl) u3).setCell (p := ⟨lb, 5, none⟩) (.inl rfl) u5).setCell (p := ⟨lb, 4, none⟩) (.inl rfl) u4
    refine ⟨rfl, ?_, ⟨P', H7.out.2.1.keep (fB _ _ _ _) (fun b hb e => ?_), fun b hb => (H7.out.2.2.1 b hb).imp id (fun q => Nat.le_trans HF6.out.1.size q)⟩, ((HF6.out.1.mono (fun _ _ q => q.elim)).trans H7.out.2.2.2 (fun _ _ q => q)).trans (fB _ _ _ _) (fun _ _ q => .inr q)⟩
    · have := (((H7.out.1.set_ 2 (.int .u64 ((c : Int) + 1))).set_ 3 (.int .u64 ((c : Int) + 1))).set_ 5 (.int .i64 0)).set_ 4 (.int .i64 0)
      show Blk _ lb 84 _
      simpa [logC, Int.natCast_add] using this
    · rcases H7.out.2.2.1 b hb with q | q
      · exact HH.out.2.1 (e ▸ q)
      · have := HF6.out.1.size
        omega
end
end Go.Proofs.YtjdbgojnpnlblaaGreat
