/- wal: Commit. -/
import Derived.Test.YtjdbgojnpnlblaaGreatVby
namespace Go.Proofs.YtjdbgojnpnlblaaGreat
open Go.RowKit

section
variable {w : World} {lb g z c s used many B : Nat} {P : Nat → Prop} {d : DS} {v : Value} {r : List Chg}
theorem lcommit_dead (h : LgW w lb g z c s used many true) : Calls Tryz.prog 34 #[.pointer (some ⟨lb, 0, none⟩), v] w fun e w' => e = .returned (.int .i64 10) ∧ w = w' := by
  have HN := Lib.hid (refuses_any h)
  clear h
  go_enter Tryz.func34, Tryz.ntmps34
  go_wp2_with (go_at_call 63; refine HN.out.mono ?_; rintro e w' ⟨rfl, rfl⟩)
  go_ret
  exact ⟨rfl, rfl⟩
theorem lcommit_bad (h : LgW w lb g z c s used many false) (hv : RcV w v r) (hm : mayR r = false) : Calls Tryz.prog 34 #[.pointer (some ⟨lb, 0, none⟩), v] w fun e w' => e = .returned (.int .i64 2) ∧ Fr (fun _ => False) w w' := by
  have HN := Lib.hid (refuses_any h)
  have HB := Lib.hid (bytes_any hv)
  have HM := Lib.hid hm
  clear h hv hm
  go_enter Tryz.func34, Tryz.ntmps34
  go_wp2_with (go_at_call 63; refine HN.out.mono ?_; rintro e w' ⟨rfl, rfl⟩)
  refine HB.out.mono ?_
  rintro e w1 ⟨g1, _, g3⟩
  obtain rfl := g1 HM.out
  have HF := Lib.hid g3
  clear g1 g3 HB HN
  go_wp2_with fail
  go_ret
  exact ⟨rfl, HF.out⟩
def rowS (c many : Nat) (r : List Chg) : List (List UInt8) := secs (rowB c many (bytesR r)) (needN ((bytesR r).length : Nat))
theorem rowS_len (c many : Nat) (r : List Chg) : (rowS c many r).length = needN ((bytesR r).length : Nat) := secs_len _ _
theorem mayR_len {r : List Chg} (h : mayR r = true) : 1 ≤ r.length ∧ r.length ≤ 60 := by
  unfold mayR at h
  simp only [Bool.and_eq_true, decide_eq_true_eq] at h
  exact ⟨h.1, h.2.1⟩
abbrev many' (n : Nat) : Nat := Proofs.YtjdbgojnpnlblaaGreat.many n
set_option maxRecDepth 100000 in
set_option maxHeartbeats 4000000 in
theorem lcommit_any (h : LgW w lb g z c s used many false) (hlb : ¬ P lb) (hd : DAt w B P g d) (hv : RcV w v r) (hvP : ∀ b, v.ownBlock = some b → ¬ P b) (hm : mayR r = true) (ht : mayT c (many : Int) = true) (hz : z ≤ 4000) (huz : used ≤ z) (hzd : z + 1 ≤ d.rd.length) (hN : ∀ j, (d.vs j).length ≤ 10000) :
    Calls Tryz.prog 34 #[.pointer (some ⟨lb, 0, none⟩), v] w fun e w' =>
      (z < used + (rowS c many r).length → e = .returned (.int .i64 8) ∧ Fr (fun _ => False) w w') ∧
      (used + (rowS c many r).length ≤ z → e = .returned (.int .i64 (if d.settles (1 + used) (rowS c many r) then 0 else 10)) ∧ (if d.settles (1 + used) (rowS c many r) then LgW w' lb g z c s (used + (rowS c many r).length) (many + 1) false else LgW w' lb g z c s used many true) ∧
        (∃ P', DAt w' B P' g (d.settle (1 + used) (rowS c many r)) ∧ ∀ b, P' b → P b ∨ w.heap.size ≤ b) ∧ Fr (fun b => P b ∨ b = lb) w w') := by
  have HN := Lib.hid (refuses_any h)
  have HB := Lib.hid (bytes_any hv)
  have hall := hv.all512
  obtain ⟨ss, hss⟩ : ∃ ss, ss = rowS c many r := ⟨_, rfl⟩
  obtain ⟨st, hst⟩ : ∃ st, st = d.settles (1 + used) (rowS c many r) := ⟨_, rfl⟩
  rw [← hst, ← hss]
  rw [← hss] at hst
  have hlen : (bytesR r).length ≤ 32768 := by rw [bytesR_len hall]; have := mayR_len hm; omega
  have HH := Lib.hid (And.intro h (And.intro hlb (And.intro hd (And.intro hvP (And.intro hm (And.intro ht (And.intro hzd (And.intro hN (And.intro hlen (And.intro hss hst))))))))))
  have hlt := h.lt
  clear h hlb hd hv hvP hm ht hzd hN hss hst hlen hall
  go_enter Tryz.func34, Tryz.ntmps34
  go_wp2_with (go_at_call 63; refine HN.out.mono ?_; rintro e w' ⟨rfl, rfl⟩)
  refine HB.out.mono ?_
  rintro e w1 ⟨_, g2, g3⟩
  obtain ⟨A, cb, rfl, hrd, hcb⟩ := g2 HH.out.2.2.2.2.1
  obtain ⟨nb, hnb⟩ : ∃ nb, nb = (bytesR r).length := ⟨_, rfl⟩
  rw [← hnb] at hrd ⊢
  have h1 := HH.out.1.keep g3 (fun q => q)
  have H1 := Lib.hid (And.intro g3 (And.intro hrd (And.intro h1 hnb)))
  clear g2 g3 hrd hcb h1 hnb HB HN
  go_wp2_with fail
  have HC : Hid (∀ w', Fr (fun _ => False) w1 w' → LgW w' lb g z c s used many false ∧ w'.cell? ⟨lb, 2, none⟩ = some (.int .u64 (c : Nat)) ∧ w'.cell? ⟨lb, 5, none⟩ = some (.int .i64 (many : Nat))) := Lib.hid fun w' f => by
    have q := H1.out.2.2.1.keep f (fun q => q)
    obtain ⟨⟨c0, c1, c2, c3, c4, c5, c6⟩, _⟩ := lg_cells q
    exact ⟨q, c2, c5⟩
  refine wp_region_held_drew (S := fun w' => Fr (fun _ => False) w1 w') (by kernel_rfl) ((Fr.refl _ _).drew) (fun hS0 => ?_)
  refine anyH_take 0 24 (.pointer (some ⟨lb, 0, none⟩)) rfl rfl (by kernel_rfl) (by kernel_rfl) (by kernel_rfl) (fun _ _ _ h => h) (.inl ⟨by rfl, fun w'' hS => by go_simp⟩) hS0 ?_
  (simp only [List.setIfInBounds_toArray, List.set_cons_zero, List.set_cons_succ])
  refine anyH_take 1 25 (.pointer (some ⟨lb, 0, none⟩)) rfl rfl (by kernel_rfl) (by kernel_rfl) (by kernel_rfl) (fun _ _ _ h => h) (.inl ⟨by rfl, fun w'' hS => by go_simp⟩) hS0 ?_
  (simp only [List.setIfInBounds_toArray, List.set_cons_zero, List.set_cons_succ])
  refine anyH_take 2 26 (.pointer (some ⟨lb, 2, none⟩)) rfl rfl (by kernel_rfl) (by kernel_rfl) (by kernel_rfl) (fun _ _ _ h => h) (.inl ⟨by rfl, fun w'' hS => by go_simp⟩) hS0 ?_
  (simp only [List.setIfInBounds_toArray, List.set_cons_zero, List.set_cons_succ])
  refine anyH_take 3 27 (.pointer (some ⟨lb, 2, none⟩)) rfl rfl (by kernel_rfl) (by kernel_rfl) (by kernel_rfl) (fun _ _ _ h => h) (.inl ⟨by rfl, fun w'' hS => by go_simp⟩) hS0 ?_
  (simp only [List.setIfInBounds_toArray, List.set_cons_zero, List.set_cons_succ])
  refine anyH_take 4 28 (.int .u64 (c : Nat)) rfl rfl (by kernel_rfl) (by kernel_rfl) (by kernel_rfl) (fun _ _ _ h => h) (.inl ⟨by rfl, fun w'' hS => by have q := HC.out w'' hS; have q0 := q.2.1; go_simp⟩) hS0 ?_
  (simp only [List.setIfInBounds_toArray, List.set_cons_zero, List.set_cons_succ])
  refine anyH_take 5 29 (.pointer (some ⟨lb, 0, none⟩)) rfl rfl (by kernel_rfl) (by kernel_rfl) (by kernel_rfl) (fun _ _ _ h => h) (.inl ⟨by rfl, fun w'' hS => by go_simp⟩) hS0 ?_
  (simp only [List.setIfInBounds_toArray, List.set_cons_zero, List.set_cons_succ])
  refine anyH_take 6 30 (.pointer (some ⟨lb, 0, none⟩)) rfl rfl (by kernel_rfl) (by kernel_rfl) (by kernel_rfl) (fun _ _ _ h => h) (.inl ⟨by rfl, fun w'' hS => by go_simp⟩) hS0 ?_
  (simp only [List.setIfInBounds_toArray, List.set_cons_zero, List.set_cons_succ])
  refine anyH_take 7 31 (.pointer (some ⟨lb, 5, none⟩)) rfl rfl (by kernel_rfl) (by kernel_rfl) (by kernel_rfl) (fun _ _ _ h => h) (.inl ⟨by rfl, fun w'' hS => by go_simp⟩) hS0 ?_
  (simp only [List.setIfInBounds_toArray, List.set_cons_zero, List.set_cons_succ])
  refine anyH_take 8 32 (.int .i64 (many : Nat)) rfl rfl (by kernel_rfl) (by kernel_rfl) (by kernel_rfl) (fun _ _ _ h => h) (.inl ⟨by rfl, fun w'' hS => by have q := HC.out w'' hS; have q0 := q.2.2; go_simp⟩) hS0 ?_
  (simp only [List.setIfInBounds_toArray, List.set_cons_zero, List.set_cons_succ])
  refine anyH_take 9 33 (.agg #[.int .u64 (c : Nat), .int .i64 (many : Nat)]) rfl rfl (by kernel_rfl) (by kernel_rfl) (by kernel_rfl) (fun _ _ _ h => h) (.inl ⟨by rfl, fun w'' hS => by go_simp⟩) hS0 ?_
  (simp only [List.setIfInBounds_toArray, List.set_cons_zero, List.set_cons_succ])
  refine anyH_take 10 34 (.slice A nb cb) rfl rfl (by kernel_rfl) (by kernel_rfl) (by kernel_rfl) (fun _ _ _ h => h) (.inl ⟨by rfl, fun w'' hS => by go_simp⟩) hS0 ?_
  (simp only [List.setIfInBounds_toArray, List.set_cons_zero, List.set_cons_succ])
  refine anyH_enter 11 35 (f := 68) (args := #[.agg #[.int .u64 (c : Nat), .int .i64 (many : Nat)], .slice A nb cb]) (by kernel_rfl) rfl rfl (by rfl) (by go_simp) ?_
  refine (split_ok (H1.out.2.1.keep (F := fun _ => False) ((Fr.refl _ _).drew) (fun _ _ q => q)) (by rw [H1.out.2.2.2]; exact HH.out.2.2.2.2.2.2.2.2.1) c many HH.out.2.2.2.2.2.1).mono ?_
  rintro e w2 ⟨R, rfl, hR, hbR, hf2⟩
  have hS2 : Fr (fun _ => False) w1 w2 := Fr.trans hS0 hf2 (fun _ _ q => q)
  refine ⟨_, rfl, hS2, ?_⟩
  (simp only [List.setIfInBounds_toArray, List.set_cons_zero, List.set_cons_succ])
  obtain ⟨K, hK⟩ : ∃ K, K = needN (nb : Nat) := ⟨_, rfl⟩
  rw [← hK]
  refine anyH_take 12 23 (.tuple #[.slice (some ⟨R, 0, none⟩) K K, .int .i64 0]) rfl rfl (by kernel_rfl) (by kernel_rfl) (by kernel_rfl) (fun _ _ _ h => h) (.inl ⟨by rfl, fun w'' hS => by go_simp⟩) hS2 ?_
  (simp only [List.setIfInBounds_toArray, List.set_cons_zero, List.set_cons_succ])
  refine anyH_take 13 36 (.slice (some ⟨R, 0, none⟩) K K) rfl rfl (by kernel_rfl) (by kernel_rfl) (by kernel_rfl) (fun _ _ _ h => h) (.inl ⟨by rfl, fun w'' hS => by go_simp⟩) hS2 ?_
  (simp only [List.setIfInBounds_toArray, List.set_cons_zero, List.set_cons_succ])
  refine anyH_take 14 37 (.int .i64 0) rfl rfl (by kernel_rfl) (by kernel_rfl) (by kernel_rfl) (fun _ _ _ h => h) (.inl ⟨by rfl, fun w'' hS => by go_simp⟩) hS2 ?_
  (simp only [List.setIfInBounds_toArray, List.set_cons_zero, List.set_cons_succ])
  refine anyH_take 15 8 (.slice (some ⟨R, 0, none⟩) K K) rfl rfl (by kernel_rfl) (by kernel_rfl) (by kernel_rfl) (fun _ _ _ h => h) (.inl ⟨by rfl, fun w'' hS => by go_simp⟩) hS2 ?_
  (simp only [List.setIfInBounds_toArray, List.set_cons_zero, List.set_cons_succ])
  refine anyH_take 16 7 (.int .i64 0) rfl rfl (by kernel_rfl) (by kernel_rfl) (by kernel_rfl) (fun _ _ _ h => h) (.inl ⟨by rfl, fun w'' hS => by go_simp⟩) hS2 ?_
  (simp only [List.setIfInBounds_toArray, List.set_cons_zero, List.set_cons_succ])
  refine wpAnyH_done (by kernel_rfl) ?_ _
  have hKl : ss.length = K := by rw [HH.out.2.2.2.2.2.2.2.2.2.1, rowS_len, hK, H1.out.2.2.2]
  have hK9 : 1 ≤ K ∧ K ≤ 400 ∧ K = (many' nb + 1) / 2 := by
    have hb9 := HH.out.2.2.2.2.2.2.2.2.1
    rw [← H1.out.2.2.2] at hb9
    rw [hK]
    unfold needN many'
    rw [if_neg (by omega)]
    simp only [Int.toNat_natCast]
    have hmn : Proofs.YtjdbgojnpnlblaaGreat.many nb = (51 + nb) / 48 := rfl
    rw [hmn]
    refine ⟨by omega, by omega, trivial⟩
  have hsecs : SecV w2 (.slice (some ⟨R, 0, none⟩) K K) ss := by
    refine ⟨_, K, by rw [hKl], by omega, by simp only [maxLen]; omega, fun _ => ⟨R, 0, rfl, ?_⟩⟩
    rw [HH.out.2.2.2.2.2.2.2.2.2.1]
    have hb9 := hbR
    have e : (rowB c many (bytesR r)).length = K * 128 := by rw [rowB_len, hK9.2.2]; unfold many'; rw [H1.out.2.2.2]
    have q := secs_in hbR (N := K) e (K := K) (Nat.le_refl _)
    unfold rowS
    rw [← H1.out.2.2.2, ← hK]
    exact q
  have H2 := Lib.hid (And.intro hS2 (And.intro hsecs (And.intro hKl (And.intro hR (And.intro (HC.out w2 hS2).1 hK9)))))
  have hgt : ((K : Int) > ((z - used : Nat) : Int)) ↔ z < used + K := by omega
  clear hS0 hS2 hbR hsecs hR hKl hf2 hK hK9
  have HRM := Lib.hid (lroom_any H2.out.2.2.2.2.1 huz hz)
  by_cases hfull : z < used + K
  · have hg2 : ((z - used : Nat) : Int) < (K : Int) := by omega
    have HFU := Lib.hid hfull
    clear hgt hfull
    go_wp2_with fail
    refine HRM.out.mono ?_
    rintro e w3 ⟨rfl, rfl⟩
    go_wp2_with fail
    all_goals
      go_ret
      have hf3 : Fr (fun _ => False) w w2.drew := (H1.out.1.trans H2.out.1 (fun _ _ q => q)).drew
      exact ⟨fun _ => ⟨rfl, hf3⟩, fun q => by rw [H2.out.2.2.1] at q; have := HFU.out; omega⟩
  · have hg2 : ¬ ((z - used : Nat) : Int) < (K : Int) := by omega
    have HFU := Lib.hid hfull
    clear hgt hfull
    go_wp2_with fail
    refine HRM.out.mono ?_
    rintro e w3 ⟨rfl, rfl⟩
    have hf3 : Fr (fun _ => False) w w2.drew := (H1.out.1.trans H2.out.1 (fun _ _ q => q)).drew
    have fdr : Fr (fun _ => False) w2 w2.drew := (Fr.refl _ _).drew
    have hlg3 := H2.out.2.2.2.2.1.keep fdr (fun q => q)
    have hse3 := H2.out.2.1.new fdr
    have HS := Lib.hid (lsettle_any hlg3 HH.out.2.1 (HH.out.2.2.1.new hf3) (i := 1 + used) hse3 (fun b hb q => by
      injection hb with hb
      have h1 := (HH.out.2.2.1.2 b q).2
      have h2 := H1.out.1.size
      have h3 := H2.out.2.2.2.1
      have h4 : w1.drew.heap.size = w1.heap.size := rfl
      simp at hb
      omega) (by rw [H2.out.2.2.1]; have := HFU.out; have := HH.out.2.2.2.2.2.2.1; omega) HH.out.2.2.2.2.2.2.2.1)
    rw [← HH.out.2.2.2.2.2.2.2.2.2.2, Int.natCast_add] at HS
    obtain ⟨⟨c0, c1, c2, c3, c4, c5, c6⟩, _⟩ := lg_cells hlg3
    have HF3 := Lib.hid hf3
    clear hf3 fdr hse3 c0 c1 c2 c3 c5 c6 HRM
    have hwu : IntKind.i64.wrap (1 + (used : Int)) = 1 + (used : Int) := by simp [IntKind.wrap, IntKind.signed, IntKind.bits]; omega
    have hlo := H2.out.2.2.1
    have hm31 : many ≤ 2147483647 := by
      have := HH.out.2.2.2.2.2.1
      unfold mayT at this
      simp only [Bool.and_eq_true, decide_eq_true_eq] at this
      omega
    cases st with
    | false =>
      go_wp2_with fail
      refine HS.out.mono ?_
      rintro e w7 ⟨rfl, h7, ⟨P', h8, h9⟩, f7⟩
      have H7 := Lib.hid (And.intro h7 (And.intro h8 (And.intro h9 f7)))
      clear h7 h8 h9 f7 HS c4
      go_wp2_with fail
      go_ret
      refine ⟨fun q => absurd q HFU.out, fun _ => ⟨rfl, by simpa using H7.out.1, ⟨P', H7.out.2.1, fun b hb => (H7.out.2.2.1 b hb).imp id (fun q => Nat.le_trans HF3.out.size q)⟩, (HF3.out.mono (fun _ _ q => q.elim)).trans H7.out.2.2.2 (fun _ _ q => q)⟩⟩
    | true =>
      go_wp2_with fail
      refine HS.out.mono ?_
      rintro e w7 ⟨rfl, h7, ⟨P', h8, h9⟩, f7⟩
      obtain ⟨⟨d0, d1, d2, d3, d4, d5, d6⟩, hfz⟩ := lg_cells h7
      have z4 := hfz 4
      have z5 := hfz 5
      have H7 := Lib.hid (And.intro h7 (And.intro h8 (And.intro h9 f7)))
      clear h7 h8 h9 f7 HS hfz c4
      go_wp2_with fail
      go_ret
      have fB : ∀ u5 u4, Fr (fun b => b = lb) w7 ((w7.setCell ⟨lb, 5, none⟩ u5).setCell ⟨lb, 4, none⟩ u4) := fun u5 u4 =>
        ((Fr.refl (fun b => b = lb) w7).setCell (p := ⟨lb, 5, none⟩) (.inl rfl) u5).setCell (p := ⟨lb, 4, none⟩) (.inl rfl) u4
      refine ⟨fun q => absurd q HFU.out, fun _ => ⟨rfl, ?_, ⟨P', H7.out.2.1.keep (fB _ _) (fun b hb e => ?_), fun b hb => (H7.out.2.2.1 b hb).imp id (fun q => Nat.le_trans HF3.out.size q)⟩, ((HF3.out.mono (fun _ _ q => q.elim)).trans H7.out.2.2.2 (fun _ _ q => q)).trans (fB _ _) (fun _ _ q => .inr q)⟩⟩
      · have := (H7.out.1.set_ 5 (.int .i64 ((many : Int) + 1))).set_ 4 (.int .i64 ((used : Int) + (K : Int)))
        have e : logC g z c s (used + K) (many + 1) false = ((logC g z c s used many false).setIfInBounds 5 (.int .i64 ((many : Int) + 1))).setIfInBounds 4 (.int .i64 ((used : Int) + (K : Int))) := by simp [logC, Int.natCast_add]
        unfold LgW
        rw [e]
        simpa using this
      · rcases H7.out.2.2.1 b hb with q | q
        · exact HH.out.2.1 (e ▸ q)
        · have := HF3.out.size
          have h5 : w2.drew.heap.size = w2.heap.size := rfl
          omega
end
end Go.Proofs.YtjdbgojnpnlblaaGreat
