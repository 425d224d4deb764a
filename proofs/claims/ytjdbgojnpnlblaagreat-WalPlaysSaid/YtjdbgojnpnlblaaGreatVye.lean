/- Vye: laid together out of Vya Vyb Vyc Vyd Vye. -/
import Derived.Test.YtjdbgojnpnlblaaGreatWd
namespace Go.Proofs.YtjdbgojnpnlblaaGreat
open Go.RowKit

set_option maxRecDepth 100000 in
theorem falls_core : ∀ (ps : List (Nat × Int)) {d d' : DS}, d'.rd = d.rd → d'.vs = d.vs → (d'.falls ps).rd = (d.falls ps).rd ∧ (d'.falls ps).vs = (d.falls ps).vs
  | [], _, _, h1, h2 => ⟨h1, h2⟩
  | p :: ps, d, d', h1, h2 => by
    refine falls_core ps (d := d.left1 p) (d' := d'.left1 p) ?_ ?_
    · simp only [DS.left1, DS.fall, h1, h2]
    · simp only [DS.left1, DS.fall, h2]
set_option maxRecDepth 100000 in
theorem crash_core {d d' : DS} (h1 : d'.rd = d.rd) (h2 : d'.vs = d.vs) (p : List Int) : (d'.crash p).rd = (d.crash p).rd ∧ (d'.crash p).vs = (d.crash p).vs := by
  have e : d'.pairs p = d.pairs p := by simp only [DS.pairs, DS.openL, h1, h2]
  have := falls_core (d.pairs p) h1 h2
  unfold DS.crash
  rw [e]
  exact this
/-- A dead disk: its head may be; whatever the picks, a log lies on what a loss of power leaves. -/
structure Ded (d : DS) (z K : Nat) : Prop where
  dd : d.dd = true
  aft : ∀ picks, ∃ c s q e, c ≤ K ∧ RI (d.crash picks) z c s q e
  hd : isHd d.head = true
  hc : cntOf d.head ≤ K
  len : z + 1 ≤ d.rd.length
  mo : d.most 10000
set_option maxRecDepth 100000 in
theorem Ded.same {d d' : DS} {z K : Nat} (h : Ded d z K) (h1 : d'.rd = d.rd) (h2 : d'.vs = d.vs) (h3 : d'.dd = true) : Ded d' z K := by
  have hh : d'.head = d.head := by unfold DS.head; rw [h1]
  refine ⟨h3, fun p => ?_, by rw [hh]; exact h.hd, by rw [hh]; exact h.hc, by rw [h1]; exact h.len, fun j => by rw [h2]; exact h.mo j⟩
  obtain ⟨c, s, q, e, hc, hr⟩ := h.aft p
  obtain ⟨k1, k2⟩ := crash_core h1 h2 p
  exact ⟨c, s, q, e, hc, hr.same k1 (fun j => by rw [k2]; exact hr.vs j)⟩
set_option maxRecDepth 100000 in
theorem Ded.mono {d : DS} {z K K' : Nat} (h : Ded d z K) (hK : K ≤ K') : Ded d z K' :=
  ⟨h.dd, fun p => by obtain ⟨c, s, q, e, hc, hr⟩ := h.aft p; exact ⟨c, s, q, e, Nat.le_trans hc hK, hr⟩, h.hd, Nat.le_trans h.hc hK, h.len, h.mo⟩
set_option maxRecDepth 100000 in
theorem Ded.settle {d : DS} {z K : Nat} (h : Ded d z K) (i : Nat) (ss : List (List UInt8)) : d.settles i ss = false ∧ Ded (d.settle i ss) z K := by
  have ha : d.alive = false := by unfold DS.alive deadS; rw [h.dd]; rfl
  have hl := lay_dead ha i ss
  refine ⟨hl.1, ?_⟩
  have e : d.settle i ss = d.step := by
    unfold DS.settle DS.flushed
    rw [if_neg (by rw [hl.1]; decide)]
    exact hl.2
  rw [e]
  exact h.same rfl rfl (by show deadS _ _ _ = true; unfold deadS; rw [h.dd]; rfl)
set_option maxRecDepth 100000 in
theorem settle_rd {d : DS} {i : Nat} {ss : List (List UInt8)} (bad : d.settles i ss = false) : (d.settle i ss).rd = (d.lay i ss).rd ∧ (d.settle i ss).vs = (d.lay i ss).vs := by
  unfold DS.settles at bad
  unfold DS.settle DS.flushed
  rw [bad]
  exact ⟨rfl, rfl⟩
set_option maxRecDepth 100000 in
theorem Ded.of {d : DS} {z K i : Nat} {ss : List (List UInt8)} {ms : List (List (List Chg))} (bad : d.settles i ss = false) (hvs : ∀ j, d.vs j = []) (hl : ss.length ≤ 9000) (ha : Aft (d.settle i ss) z K ms) (hh : isHd (d.settle i ss).head = true ∧ cntOf (d.settle i ss).head ≤ K) (hz : z + 1 ≤ d.rd.length) : Ded (d.settle i ss) z K := by
  refine ⟨settle_dd bad, fun p => ?_, hh.1, hh.2, by rw [settle_len]; exact hz, fun j => ?_⟩
  · obtain ⟨c, s, q, e, hc, hr, _⟩ := ha p
    exact ⟨c, s, q, e, hc, hr⟩
  · rw [(settle_rd bad).2]
    have := lay_manyN ss d i 1 (fun j => by rw [hvs j]; exact Nat.zero_le _) (Nat.le_refl _) j
    omega
section
variable {d : DS} {z c s e K : Nat} {q : List (Nat × List Chg)} {r : List Chg}
set_option maxRecDepth 100000 in
theorem Ded.commit (h : LifeS d z c s q e K) (hm : mayR r = true) (h5 : ∀ x ∈ r, x.p.length = 512) (ht : mayT c (q.length : Int) = true) (room : e + needN ((bytesR r).length : Nat) ≤ z) (hz : z ≤ 4000) (bad : d.settles (1 + e) (rowS c q.length r) = false) : Ded (d.settle (1 + e) (rowS c q.length r)) z K := by
  refine Ded.of bad h.ri.vs (by rw [rowS_len]; omega) (Aft.commit h.ri h.nw hm h5 ht room h.cK bad) ?_ h.ri.len
  have hh : (d.settle (1 + e) (rowS c q.length r)).head = d.head := by
    unfold DS.head
    rw [(settle_rd bad).1]
    exact (lay_low (by omega)).2
  obtain ⟨k1, k2, _⟩ := h.ri.hd.facts
  rw [hh]
  exact ⟨k1, by rw [k2]; exact h.cK⟩
set_option maxRecDepth 100000 in
theorem head_one {x : List UInt8} (hl : 0 < d.rd.length) (bad : d.settles 0 [x] = false) : (d.settle 0 [x]).head = d.head ∨ (d.settle 0 [x]).head = x := by
  unfold DS.head
  rw [(settle_rd bad).1]
  show ((d.write 0 x)).rd.getD 0 [] = _ ∨ ((d.write 0 x)).rd.getD 0 [] = _
  unfold DS.write
  split
  · right
    show (d.rd.set 0 x).getD 0 [] = x
    exact getD_set_self hl
  · exact .inl rfl
set_option maxRecDepth 100000 in
theorem Ded.head {x : List UInt8} {ms : List (List (List Chg))} (h : RI d z c s q e) (hK : c + 1 ≤ K) (hc : c < maxC) {s' : Nat} (h1 : 1 ≤ s') (h2 : s' ≤ c + 1) (hx : x = hdS (c + 1) s') (bad : d.settles 0 [x] = false) (ha : Aft (d.settle 0 [x]) z K ms) : Ded (d.settle 0 [x]) z K := by
  refine Ded.of bad h.vs (by simp) ha ?_ h.len
  rcases head_one (by have := h.len; omega) bad with q | q
  · obtain ⟨k1, k2, _⟩ := h.hd.facts
    rw [q, k2]
    exact ⟨k1, by omega⟩
  · rw [q, hx]
    exact ⟨hdS_is_hd h1 h2 (by omega), by rw [(hdS_nums (c := c + 1) (s := s') (by omega) (by omega)).1]; exact hK⟩
set_option maxRecDepth 100000 in
theorem Ded.opens (h : RI d z c s q e) (hK : c + 1 ≤ K) (hc : c < maxC) (bad : d.settles 0 [hdS (c + 1) s] = false) : Ded (d.settle 0 [hdS (c + 1) s]) z K :=
  Ded.head h hK hc h.hd.2.1 (Nat.le_succ_of_le h.hd.2.2.1) rfl bad (Aft.opens h hc hK bad)
set_option maxRecDepth 100000 in
theorem Ded.cut (h : RI d z c s q e) (hK : c + 1 ≤ K) (hc : c < maxC) (bad : d.settles 0 [hdS (c + 1) (c + 1)] = false) : Ded (d.settle 0 [hdS (c + 1) (c + 1)]) z K :=
  Ded.head h hK hc (Nat.succ_le_succ (Nat.zero_le _)) (Nat.le_refl _) rfl bad (Aft.cut h hc hK bad)
end
set_option maxRecDepth 100000 in
/-- What a whole commit makes of what is read: just its row is laid. -/
theorem settle_row {d : DS} {i : Nat} {ss : List (List UInt8)} (ok : d.settles i ss = true) : (d.settle i ss).rd = layL d.rd i ss ∧ (d.settle i ss).openL = [] := by
  obtain ⟨k1, k2⟩ := settle_alive ok
  refine ⟨k1, List.eq_nil_iff_forall_not_mem.2 fun i hi => ?_⟩
  exact (DS.openL_mem.1 hi).2 (k2 i)
set_option maxRecDepth 100000 in
theorem rest_openL {d : DS} (h : ∀ j, d.vs j = []) : d.openL = [] := List.eq_nil_iff_forall_not_mem.2 fun i hi => (DS.openL_mem.1 hi).2 (h i)
end Go.Proofs.YtjdbgojnpnlblaaGreat

namespace Go.Proofs.YtjdbgojnpnlblaaGreat
open Go.RowKit

set_option maxRecDepth 100000 in
/-- Records stay where no block of theirs is written: told by the blocks' types. -/
theorem RcsK.types {F : Nat → Prop} {w w' : World} {base : Nat} {v : Value} {rs : List (List Chg)} (h : RcsK w base v rs) (f : Fr F w w') (h1 : ∀ b cs, Blk w b 60 cs → ¬ F b) (h2 : ∀ b cs, Blk w b 120 cs → ¬ F b) : RcsK w' base v rs := by
  obtain ⟨vs, k1, k2, k3⟩ := h
  refine ⟨vs, own_keep k1 f (fun b hb => ?_), k2, fun i u r hu hr => ?_⟩
  · obtain ⟨cs, j⟩ := own_blk k1 hb
    exact h1 b cs j
  · obtain ⟨q1, q2⟩ := k3 i u r hu hr
    refine ⟨q1.keep f (fun b hb => ?_), fun b hb => ?_⟩
    · obtain ⟨_, cs, j⟩ := q2 b hb
      exact h2 b cs j
    · obtain ⟨j1, cs, j2⟩ := q2 b hb
      exact ⟨j1, cs, j2.keep f (h2 b cs j2)⟩
set_option maxRecDepth 100000 in
set_option maxHeartbeats 4000000 in
theorem looks_any {w : World} {lb L g z c s us n : Nat} {dd : Bool} {A : Option Addr} {cp : Nat} (hl : LgW w lb g z c s us n dd) (hb : Blk w L 43 (rlC c s (z : Int) us (.slice A n cp))) (ha : us ≤ z) (hz : z ≤ 4000) :
    Calls Tryz.prog 27 #[.pointer (some ⟨lb, 0, none⟩), .pointer (some ⟨L, 0, none⟩)] w fun e w' => e = .returned (.bool true) ∧ Fr (fun _ => False) w w' := by
  have HC : Hid (∀ w'', Fr (fun _ => False) w w'' → w''.cell? ⟨L, 0, none⟩ = some (.int .u64 (c : Nat)) ∧ w''.cell? ⟨L, 1, none⟩ = some (.int .u64 (s : Nat)) ∧ w''.cell? ⟨L, 3, none⟩ = some (.slice A n cp)) := Lib.hid fun w'' f => by
    have hb := hb.keep f (fun q => q)
    have h1 := hb.cell 0
    have h2 := hb.cell 1
    have h3 := hb.cell 3
    simp only [List.getElem?_toArray, List.getElem?_cons_zero, List.getElem?_cons_succ] at h1 h2 h3
    exact ⟨h1, h2, h3⟩
  obtain ⟨zr, hzr⟩ : ∃ zr, zr = z - us := ⟨_, rfl⟩
  have HRM1 : Hid (∀ w'', Fr (fun _ => False) w w'' → Calls Tryz.prog 21 #[.pointer (some ⟨lb, 0, none⟩)] w'' fun e w' => e = .returned (.int .i64 (zr : Nat)) ∧ Fr (fun _ => False) w w') := Lib.hid fun w'' f => by
    rw [hzr]
    exact (lroom_any (hl.keep f id) ha hz).mono fun e w' q => ⟨q.1, by rw [q.2]; exact f.drew⟩
  have HRM2 : Hid (∀ w'', Fr (fun _ => False) w w'' → Calls Tryz.prog 22 #[.pointer (some ⟨L, 0, none⟩)] w'' fun e w' => e = .returned (.int .i64 (zr : Nat)) ∧ Fr (fun _ => False) w w') := Lib.hid fun w'' f => by
    rw [hzr]
    exact (rroom_any (hb.keep f (fun q => q)) ha (by omega)).mono fun e w' q => ⟨q.1, by rw [q.2]; exact f.drew⟩
  have HCN : Hid (∀ w'', Fr (fun _ => False) w w'' → Calls Tryz.prog 18 #[.pointer (some ⟨lb, 0, none⟩)] w'' fun e w' => e = .returned (.int .u64 (c : Nat)) ∧ Fr (fun _ => False) w w') := Lib.hid fun w'' f =>
    (lcount_any (hl.keep f id)).mono fun e w' q => ⟨q.1, by rw [q.2]; exact f⟩
  have HSN : Hid (∀ w'', Fr (fun _ => False) w w'' → Calls Tryz.prog 19 #[.pointer (some ⟨lb, 0, none⟩)] w'' fun e w' => e = .returned (.int .u64 (s : Nat)) ∧ Fr (fun _ => False) w w') := Lib.hid fun w'' f =>
    (lsince_any (hl.keep f id)).mono fun e w' q => ⟨q.1, by rw [q.2]; exact f⟩
  have HLN : Hid (∀ w'', Fr (fun _ => False) w w'' → Calls Tryz.prog 20 #[.pointer (some ⟨lb, 0, none⟩)] w'' fun e w' => e = .returned (.int .i64 (n : Nat)) ∧ Fr (fun _ => False) w w') := Lib.hid fun w'' f =>
    (llen_any (hl.keep f id)).mono fun e w' q => ⟨q.1, by rw [q.2]; exact f⟩
  clear hl hb ha hz hzr
  go_enter Tryz.func27, Tryz.ntmps27
  go_upto_region 1 with fail
  refine wp_region_held_drew (S := fun w' => Fr (fun _ => False) w w') (by kernel_rfl) ((Fr.refl _ _).drew) (fun hS0 => ?_)
  refine anyH_take 0 5 (.pointer (some ⟨lb, 0, none⟩)) rfl rfl (by kernel_rfl) (by kernel_rfl) (by kernel_rfl) (fun _ _ _ h => h) (.inl ⟨by rfl, fun w'' hS => by go_simp⟩) hS0 ?_
  (simp only [List.setIfInBounds_toArray, List.set_cons_zero, List.set_cons_succ])
  refine anyH_take 2 7 (.pointer (some ⟨L, 0, none⟩)) rfl rfl (by kernel_rfl) (by kernel_rfl) (by kernel_rfl) (fun _ _ _ h => h) (.inl ⟨by rfl, fun w'' hS => by go_simp⟩) hS0 ?_
  (simp only [List.setIfInBounds_toArray, List.set_cons_zero, List.set_cons_succ])
  refine anyH_take 3 8 (.pointer (some ⟨L, 0, none⟩)) rfl rfl (by kernel_rfl) (by kernel_rfl) (by kernel_rfl) (fun _ _ _ h => h) (.inl ⟨by rfl, fun w'' hS => by go_simp⟩) hS0 ?_
  (simp only [List.setIfInBounds_toArray, List.set_cons_zero, List.set_cons_succ])
  refine anyH_take 4 9 (.pointer (some ⟨L, 0, none⟩)) rfl rfl (by kernel_rfl) (by kernel_rfl) (by kernel_rfl) (fun _ _ _ h => h) (.inl ⟨by rfl, fun w'' hS => by go_simp⟩) hS0 ?_
  (simp only [List.setIfInBounds_toArray, List.set_cons_zero, List.set_cons_succ])
  refine anyH_take 5 10 (.int .u64 (c : Nat)) rfl rfl (by kernel_rfl) (by kernel_rfl) (by kernel_rfl) (fun _ _ _ h => h) (.inl ⟨by rfl, fun w'' hS => by have q0 := (HC.out w'' hS).1; go_simp⟩) hS0 ?_
  (simp only [List.setIfInBounds_toArray, List.set_cons_zero, List.set_cons_succ])
  refine anyH_one 1 6 (.int .u64 (c : Nat)) (by kernel_rfl) (tame_call 6 rfl rfl (by rfl) (fun w'' hS => by go_simp) (fun w'' hS => HCN.out w'' hS)) hS0 (fun wq0 hS0 => ?_)
  (simp only [List.setIfInBounds_toArray, List.set_cons_zero, List.set_cons_succ])
  refine anyH_take 6 11 (.bool true) rfl rfl (by kernel_rfl) (by kernel_rfl) (by kernel_rfl) (fun _ _ _ h => h) (.inl ⟨by rfl, fun w'' hS => by go_simp⟩) hS0 ?_
  (simp only [List.setIfInBounds_toArray, List.set_cons_zero, List.set_cons_succ])
  refine anyH_take 7 12 (.bool true) rfl rfl (by kernel_rfl) (by kernel_rfl) (by kernel_rfl) (fun _ _ _ h => h) (.inl ⟨by rfl, fun w'' hS => by go_simp⟩) hS0 ?_
  (simp only [List.setIfInBounds_toArray, List.set_cons_zero, List.set_cons_succ])
  refine anyH_take 8 13 (.pointer (some ⟨lb, 0, none⟩)) rfl rfl (by kernel_rfl) (by kernel_rfl) (by kernel_rfl) (fun _ _ _ h => h) (.inl ⟨by rfl, fun w'' hS => by go_simp⟩) hS0 ?_
  (simp only [List.setIfInBounds_toArray, List.set_cons_zero, List.set_cons_succ])
  refine anyH_take 10 15 (.pointer (some ⟨L, 0, none⟩)) rfl rfl (by kernel_rfl) (by kernel_rfl) (by kernel_rfl) (fun _ _ _ h => h) (.inl ⟨by rfl, fun w'' hS => by go_simp⟩) hS0 ?_
  (simp only [List.setIfInBounds_toArray, List.set_cons_zero, List.set_cons_succ])
  refine anyH_take 11 16 (.pointer (some ⟨L, 0, none⟩)) rfl rfl (by kernel_rfl) (by kernel_rfl) (by kernel_rfl) (fun _ _ _ h => h) (.inl ⟨by rfl, fun w'' hS => by go_simp⟩) hS0 ?_
  (simp only [List.setIfInBounds_toArray, List.set_cons_zero, List.set_cons_succ])
  refine anyH_take 12 17 (.pointer (some ⟨L, 1, none⟩)) rfl rfl (by kernel_rfl) (by kernel_rfl) (by kernel_rfl) (fun _ _ _ h => h) (.inl ⟨by rfl, fun w'' hS => by go_simp⟩) hS0 ?_
  (simp only [List.setIfInBounds_toArray, List.set_cons_zero, List.set_cons_succ])
  refine anyH_take 13 18 (.int .u64 (s : Nat)) rfl rfl (by kernel_rfl) (by kernel_rfl) (by kernel_rfl) (fun _ _ _ h => h) (.inl ⟨by rfl, fun w'' hS => by have q0 := (HC.out w'' hS).2.1; go_simp⟩) hS0 ?_
  (simp only [List.setIfInBounds_toArray, List.set_cons_zero, List.set_cons_succ])
  refine anyH_one 9 14 (.int .u64 (s : Nat)) (by kernel_rfl) (tame_call 14 rfl rfl (by rfl) (fun w'' hS => by go_simp) (fun w'' hS => HSN.out w'' hS)) hS0 (fun wq1 hS0 => ?_)
  (simp only [List.setIfInBounds_toArray, List.set_cons_zero, List.set_cons_succ])
  refine anyH_take 14 19 (.bool true) rfl rfl (by kernel_rfl) (by kernel_rfl) (by kernel_rfl) (fun _ _ _ h => h) (.inl ⟨by rfl, fun w'' hS => by go_simp⟩) hS0 ?_
  (simp only [List.setIfInBounds_toArray, List.set_cons_zero, List.set_cons_succ])
  refine anyH_take 15 20 (.bool true) rfl rfl (by kernel_rfl) (by kernel_rfl) (by kernel_rfl) (fun _ _ _ h => h) (.inl ⟨by rfl, fun w'' hS => by go_simp⟩) hS0 ?_
  (simp only [List.setIfInBounds_toArray, List.set_cons_zero, List.set_cons_succ])
  refine anyH_take 16 21 (.bool true) rfl rfl (by kernel_rfl) (by kernel_rfl) (by kernel_rfl) (fun _ _ _ h => h) (.inl ⟨by rfl, fun w'' hS => by go_simp⟩) hS0 ?_
  (simp only [List.setIfInBounds_toArray, List.set_cons_zero, List.set_cons_succ])
  refine anyH_take 17 22 (.pointer (some ⟨lb, 0, none⟩)) rfl rfl (by kernel_rfl) (by kernel_rfl) (by kernel_rfl) (fun _ _ _ h => h) (.inl ⟨by rfl, fun w'' hS => by go_simp⟩) hS0 ?_
  (simp only [List.setIfInBounds_toArray, List.set_cons_zero, List.set_cons_succ])
  refine anyH_take 19 24 (.pointer (some ⟨L, 0, none⟩)) rfl rfl (by kernel_rfl) (by kernel_rfl) (by kernel_rfl) (fun _ _ _ h => h) (.inl ⟨by rfl, fun w'' hS => by go_simp⟩) hS0 ?_
  (simp only [List.setIfInBounds_toArray, List.set_cons_zero, List.set_cons_succ])
  refine anyH_take 20 25 (.pointer (some ⟨L, 0, none⟩)) rfl rfl (by kernel_rfl) (by kernel_rfl) (by kernel_rfl) (fun _ _ _ h => h) (.inl ⟨by rfl, fun w'' hS => by go_simp⟩) hS0 ?_
  (simp only [List.setIfInBounds_toArray, List.set_cons_zero, List.set_cons_succ])
  refine anyH_take 21 26 (.pointer (some ⟨L, 3, none⟩)) rfl rfl (by kernel_rfl) (by kernel_rfl) (by kernel_rfl) (fun _ _ _ h => h) (.inl ⟨by rfl, fun w'' hS => by go_simp⟩) hS0 ?_
  (simp only [List.setIfInBounds_toArray, List.set_cons_zero, List.set_cons_succ])
  refine anyH_take 22 27 (.slice A n cp) rfl rfl (by kernel_rfl) (by kernel_rfl) (by kernel_rfl) (fun _ _ _ h => h) (.inl ⟨by rfl, fun w'' hS => by have q0 := (HC.out w'' hS).2.2; go_simp⟩) hS0 ?_
  (simp only [List.setIfInBounds_toArray, List.set_cons_zero, List.set_cons_succ])
  refine anyH_take 23 28 (.int .i64 (n : Nat)) rfl rfl (by kernel_rfl) (by kernel_rfl) (by kernel_rfl) (fun _ _ _ h => h) (.inl ⟨by rfl, fun w'' hS => by go_simp⟩) hS0 ?_
  (simp only [List.setIfInBounds_toArray, List.set_cons_zero, List.set_cons_succ])
  refine anyH_one 18 23 (.int .i64 (n : Nat)) (by kernel_rfl) (tame_call 23 rfl rfl (by rfl) (fun w'' hS => by go_simp) (fun w'' hS => HLN.out w'' hS)) hS0 (fun wq2 hS0 => ?_)
  (simp only [List.setIfInBounds_toArray, List.set_cons_zero, List.set_cons_succ])
  refine anyH_take 24 29 (.bool true) rfl rfl (by kernel_rfl) (by kernel_rfl) (by kernel_rfl) (fun _ _ _ h => h) (.inl ⟨by rfl, fun w'' hS => by go_simp⟩) hS0 ?_
  (simp only [List.setIfInBounds_toArray, List.set_cons_zero, List.set_cons_succ])
  refine anyH_take 25 30 (.bool true) rfl rfl (by kernel_rfl) (by kernel_rfl) (by kernel_rfl) (fun _ _ _ h => h) (.inl ⟨by rfl, fun w'' hS => by go_simp⟩) hS0 ?_
  (simp only [List.setIfInBounds_toArray, List.set_cons_zero, List.set_cons_succ])
  refine anyH_take 26 31 (.bool true) rfl rfl (by kernel_rfl) (by kernel_rfl) (by kernel_rfl) (fun _ _ _ h => h) (.inl ⟨by rfl, fun w'' hS => by go_simp⟩) hS0 ?_
  (simp only [List.setIfInBounds_toArray, List.set_cons_zero, List.set_cons_succ])
  refine anyH_take 27 32 (.pointer (some ⟨lb, 0, none⟩)) rfl rfl (by kernel_rfl) (by kernel_rfl) (by kernel_rfl) (fun _ _ _ h => h) (.inl ⟨by rfl, fun w'' hS => by go_simp⟩) hS0 ?_
  (simp only [List.setIfInBounds_toArray, List.set_cons_zero, List.set_cons_succ])
  refine anyH_take 29 34 (.pointer (some ⟨L, 0, none⟩)) rfl rfl (by kernel_rfl) (by kernel_rfl) (by kernel_rfl) (fun _ _ _ h => h) (.inl ⟨by rfl, fun w'' hS => by go_simp⟩) hS0 ?_
  (simp only [List.setIfInBounds_toArray, List.set_cons_zero, List.set_cons_succ])
  refine anyH_one 28 33 (.int .i64 (zr : Nat)) (by kernel_rfl) (tame_call 33 rfl rfl (by rfl) (fun w'' hS => by go_simp) (fun w'' hS => HRM1.out w'' hS)) hS0 (fun wq3 hS0 => ?_)
  (simp only [List.setIfInBounds_toArray, List.set_cons_zero, List.set_cons_succ])
  refine anyH_one 30 35 (.int .i64 (zr : Nat)) (by kernel_rfl) (tame_call 35 rfl rfl (by rfl) (fun w'' hS => by go_simp) (fun w'' hS => HRM2.out w'' hS)) hS0 (fun wq4 hS0 => ?_)
  (simp only [List.setIfInBounds_toArray, List.set_cons_zero, List.set_cons_succ])
  refine anyH_take 31 36 (.bool true) rfl rfl (by kernel_rfl) (by kernel_rfl) (by kernel_rfl) (fun _ _ _ h => h) (.inl ⟨by rfl, fun w'' hS => by go_simp⟩) hS0 ?_
  (simp only [List.setIfInBounds_toArray, List.set_cons_zero, List.set_cons_succ])
  refine anyH_take 32 37 (.bool true) rfl rfl (by kernel_rfl) (by kernel_rfl) (by kernel_rfl) (fun _ _ _ h => h) (.inl ⟨by rfl, fun w'' hS => by go_simp⟩) hS0 ?_
  (simp only [List.setIfInBounds_toArray, List.set_cons_zero, List.set_cons_succ])
  refine anyH_take 33 4 (.bool true) rfl rfl (by kernel_rfl) (by kernel_rfl) (by kernel_rfl) (fun _ _ _ h => h) (.inl ⟨by rfl, fun w'' hS => by go_simp⟩) hS0 ?_
  (simp only [List.setIfInBounds_toArray, List.set_cons_zero, List.set_cons_succ])
  refine wpAnyH_done (by kernel_rfl) ?_ _
  have HK := Lib.hid hS0
  clear hS0
  go_wp2_with fail
  go_ret
  exact ⟨rfl, HK.out⟩
end Go.Proofs.YtjdbgojnpnlblaaGreat

namespace Go.Proofs.YtjdbgojnpnlblaaGreat
open Go.RowKit

set_option maxRecDepth 100000 in
theorem asec_any {w : World} {B g : Nat} {P : Nat → Prop} {d : DS} (h : DAt w B P g d) : Calls Tryz.prog 58 #[.pointer (some ⟨g, 0, none⟩)] w fun e w' => e = .returned (.int .i64 d.rd.length) ∧ w = w' := by
  obtain ⟨⟨R, M, D, val, k1⟩, k2⟩ := h
  exact sectors_any k1.blk
set_option maxRecDepth 100000 in
/-- ref's Row of half: its sectors lie in a block of their own. -/
theorem rrow_own {w : World} {A : Option Addr} {k cb : Nat} {b : List UInt8} (hr : Rd w A k b) (hk : k ≤ 32768) (c n : Nat) (hc : c ≤ 18446744073709551615) (hn : n ≤ 9223372036854775807) :
    Calls Tryz.prog 43 #[.agg #[.int .u64 c, .int .i64 n], .slice A k cb] w fun e w' => ∃ v, e = .returned v ∧ w'.ownsRow w.heap.size 45 128 v ((many k + 1) / 2) (cellsB (rowB c n b)) ∧ Fr (fun _ => False) w w' := by
  have hl := hr.len
  subst hl
  have HF0 : Hid (Fr (fun _ => False) w (w.alloc (.cells #[.int .u64 (c : Nat), .int .i64 (n : Nat)] 91))) := Lib.hid ((Fr.refl _ w).alloc _)
  have HH := Lib.hid (rhalves_any (cb := cb) (hr.keep HF0.out (fun _ _ q => q)) hk c n hc hn)
  clear hr hc hn
  go_enter Tryz.func43, Tryz.ntmps43
  go_wp2_with fail
  (with_reducible refine HH.out.mono ?_)
  rintro e w1 ⟨v1, rfl, hl1, hf1⟩
  have HF1 := Lib.hid (HF0.out.trans hf1 (fun _ _ q => q))
  have HS := Lib.hid (rsectors_any hl1 (halves64 c n b) (by rw [halvesL_len]; unfold many; omega))
  clear hl1 hf1 HH
  go_wp2_with fail
  (with_reducible refine HS.out.mono ?_)
  rintro e w2 ⟨v2, rfl, ho, hf2⟩
  rw [row_sectors, halvesL_len] at ho
  have HV := Lib.hid (own_less ho HF1.out.size)
  have HF2 := Lib.hid (HF1.out.trans hf2 (fun _ _ q => q))
  clear ho hf2 HS
  go_wp2_with fail
  go_ret
  exact ⟨_, rfl, HV.out, HF2.out⟩
set_option maxRecDepth 100000 in
theorem secs_take (l : List UInt8) : ∀ N, (secs l N).flatten = l.take (128 * N)
  | 0 => rfl
  | N + 1 => by
    have ih := secs_take l N
    unfold secs at ih ⊢
    rw [List.range_succ, List.map_append, List.flatten_append, ih]
    simp only [List.map_cons, List.map_nil, List.flatten_cons, List.flatten_nil, List.append_nil]
    rw [Nat.mul_succ, List.take_add]
set_option maxRecDepth 100000 in
theorem secs_flat {l : List UInt8} {N : Nat} (h : l.length = N * 128) : (secs l N).flatten = l := by
  rw [secs_take, List.take_of_length_le (by omega)]
set_option maxRecDepth 100000 in
theorem build_tag (c n : Nat) (w : World) : (Instr.build 91 #[(0, .int .u64 (c : Nat)), (1, .int .i64 (n : Nat))]).run Tryz.prog w = .ok (.agg #[.int .u64 (c : Nat), .int .i64 (n : Nat)]) w := by kernel_rfl
set_option maxRecDepth 100000 in
set_option maxHeartbeats 4000000 in
theorem lrow_any {w : World} {L c s us n : Nat} {z : Int} {A : Option Addr} {cp : Nat} {v : Value} {r : List Chg} (hb : Blk w L 43 (rlC c s z us (.slice A n cp))) (hv : RcV w v r) (hm : mayR r = true) (hc : c ≤ 18446744073709551615) (hn : n ≤ 9223372036854775807) :
    Calls Tryz.prog 61 #[.pointer (some ⟨L, 0, none⟩), v] w fun e w' => ∃ v', e = .returned v' ∧ w'.ownsRow w.heap.size 45 128 v' (needN ((bytesR r).length : Nat)) (cellsB (rowS c n r).flatten) ∧ Fr (fun _ => False) w w' := by
  have HC : Hid (∀ w'', Fr (fun _ => False) w w'' → w''.cell? ⟨L, 0, none⟩ = some (.int .u64 (c : Nat)) ∧ w''.cell? ⟨L, 3, none⟩ = some (.slice A n cp)) := Lib.hid fun w'' f => by
    have hb := hb.keep f (fun q => q)
    have h1 := hb.cell 0
    have h3 := hb.cell 3
    simp only [List.getElem?_toArray, List.getElem?_cons_zero, List.getElem?_cons_succ] at h1 h3
    exact ⟨h1, h3⟩
  have hall := hv.all512
  have hlen : (bytesR r).length ≤ 32768 := by rw [bytesR_len hall]; have := mayR_len hm; omega
  have HB : Hid (∀ w'', Fr (fun _ => False) w w'' → Calls Tryz.prog 90 #[v] w'' fun e w' => ∃ A c, e = .returned (.slice A (bytesR r).length c) ∧ Rd w' A (bytesR r).length (bytesR r) ∧ Fr (fun _ => False) w'' w') := Lib.hid fun w'' f =>
    fbytes_any (hv.keep f (fun _ _ q => q)) (mayR_len hm).2 (fun x hx => by
      unfold mayR at hm
      simp only [Bool.and_eq_true, List.all_eq_true] at hm
      exact hm.2.2 x hx)
  have hnd := need_many hlen
  have hrs : (rowS c n r).flatten = rowB c n (bytesR r) := by
    unfold rowS
    rw [hnd]
    exact secs_flat (by rw [rowB_len])
  have hc2 : c ≤ 18446744073709551615 := hc
  have HH := Lib.hid (And.intro hlen (And.intro hnd (And.intro hrs (And.intro hc2 hn))))
  obtain ⟨Av, cv, rfl, _, _, _⟩ := hv
  clear hb hm hall hlen hnd hrs hc hc2 hn
  obtain ⟨lr, hlr⟩ : ∃ lr, lr = r.length := ⟨_, rfl⟩
  rw [← hlr] at HB ⊢
  clear hlr
  go_enter Tryz.func61, Tryz.ntmps61
  go_upto_region 1 with fail
  refine wp_region_held_drew (S := fun w' => Fr (fun _ => False) w w') (by kernel_rfl) ((Fr.refl _ _).drew) (fun hS0 => ?_)
  refine anyH_take 0 5 (.pointer (some ⟨L, 0, none⟩)) rfl rfl (by kernel_rfl) (by kernel_rfl) (by kernel_rfl) (fun _ _ _ h => h) (.inl ⟨by rfl, fun w'' hS => by go_simp⟩) hS0 ?_
  (simp only [List.setIfInBounds_toArray, List.set_cons_zero, List.set_cons_succ])
  refine anyH_take 1 6 (.pointer (some ⟨L, 0, none⟩)) rfl rfl (by kernel_rfl) (by kernel_rfl) (by kernel_rfl) (fun _ _ _ h => h) (.inl ⟨by rfl, fun w'' hS => by go_simp⟩) hS0 ?_
  (simp only [List.setIfInBounds_toArray, List.set_cons_zero, List.set_cons_succ])
  refine anyH_take 2 7 (.pointer (some ⟨L, 0, none⟩)) rfl rfl (by kernel_rfl) (by kernel_rfl) (by kernel_rfl) (fun _ _ _ h => h) (.inl ⟨by rfl, fun w'' hS => by go_simp⟩) hS0 ?_
  (simp only [List.setIfInBounds_toArray, List.set_cons_zero, List.set_cons_succ])
  refine anyH_take 3 8 (.int .u64 (c : Nat)) rfl rfl (by kernel_rfl) (by kernel_rfl) (by kernel_rfl) (fun _ _ _ h => h) (.inl ⟨by rfl, fun w'' hS => by have q0 := (HC.out w'' hS).1; go_simp⟩) hS0 ?_
  (simp only [List.setIfInBounds_toArray, List.set_cons_zero, List.set_cons_succ])
  refine anyH_take 4 9 (.pointer (some ⟨L, 0, none⟩)) rfl rfl (by kernel_rfl) (by kernel_rfl) (by kernel_rfl) (fun _ _ _ h => h) (.inl ⟨by rfl, fun w'' hS => by go_simp⟩) hS0 ?_
  (simp only [List.setIfInBounds_toArray, List.set_cons_zero, List.set_cons_succ])
  refine anyH_take 5 10 (.pointer (some ⟨L, 0, none⟩)) rfl rfl (by kernel_rfl) (by kernel_rfl) (by kernel_rfl) (fun _ _ _ h => h) (.inl ⟨by rfl, fun w'' hS => by go_simp⟩) hS0 ?_
  (simp only [List.setIfInBounds_toArray, List.set_cons_zero, List.set_cons_succ])
  refine anyH_take 6 11 (.pointer (some ⟨L, 3, none⟩)) rfl rfl (by kernel_rfl) (by kernel_rfl) (by kernel_rfl) (fun _ _ _ h => h) (.inl ⟨by rfl, fun w'' hS => by go_simp⟩) hS0 ?_
  (simp only [List.setIfInBounds_toArray, List.set_cons_zero, List.set_cons_succ])
  refine anyH_take 7 12 (.slice A n cp) rfl rfl (by kernel_rfl) (by kernel_rfl) (by kernel_rfl) (fun _ _ _ h => h) (.inl ⟨by rfl, fun w'' hS => by have q0 := (HC.out w'' hS).2; go_simp⟩) hS0 ?_
  (simp only [List.setIfInBounds_toArray, List.set_cons_zero, List.set_cons_succ])
  refine anyH_take 8 13 (.int .i64 (n : Nat)) rfl rfl (by kernel_rfl) (by kernel_rfl) (by kernel_rfl) (fun _ _ _ h => h) (.inl ⟨by rfl, fun w'' hS => by go_simp⟩) hS0 ?_
  (simp only [List.setIfInBounds_toArray, List.set_cons_zero, List.set_cons_succ])
  refine anyH_take 9 14 (.agg #[.int .u64 (c : Nat), .int .i64 (n : Nat)]) rfl rfl (by kernel_rfl) (by kernel_rfl) (by kernel_rfl) (fun _ _ _ h => h) (.inl ⟨by rfl, fun w'' hS => by go_simp⟩) hS0 ?_
  (simp only [List.setIfInBounds_toArray, List.set_cons_zero, List.set_cons_succ])
  refine anyH_take 10 15 (.slice Av lr cv) rfl rfl (by kernel_rfl) (by kernel_rfl) (by kernel_rfl) (fun _ _ _ h => h) (.inl ⟨by rfl, fun w'' hS => by go_simp⟩) hS0 ?_
  (simp only [List.setIfInBounds_toArray, List.set_cons_zero, List.set_cons_succ])
  refine anyH_enter 11 16 (f := 90) (args := #[.slice Av lr cv]) (by kernel_rfl) rfl rfl (by rfl) (by go_simp) ?_
  refine (HB.out _ hS0).mono ?_
  rintro e w1 ⟨A1, c1, rfl, hrd, f1⟩
  have hS1 := hS0.trans f1 (fun _ _ q => q)
  refine ⟨_, rfl, hS1, ?_⟩
  (simp only [List.setIfInBounds_toArray, List.set_cons_zero, List.set_cons_succ])
  refine anyH_enter 12 17 (f := 43) (args := #[.agg #[.int .u64 (c : Nat), .int .i64 (n : Nat)], .slice A1 (bytesR r).length c1]) (by kernel_rfl) rfl rfl (by rfl) (by go_simp) ?_
  refine (rrow_own hrd HH.out.1 c n HH.out.2.2.2.1 HH.out.2.2.2.2).mono ?_
  rintro e w2 ⟨v2, rfl, ho, f2⟩
  have hS0 := hS1.trans f2 (fun _ _ q => q)
  refine ⟨_, rfl, hS0, ?_⟩
  (simp only [List.setIfInBounds_toArray, List.set_cons_zero, List.set_cons_succ])
  have ho := own_less ho hS1.size
  rw [← HH.out.2.1, ← HH.out.2.2.1] at ho
  refine anyH_take 13 4 v2 rfl rfl (by kernel_rfl) (by kernel_rfl) (by kernel_rfl) (fun _ _ _ h => h) (.inl ⟨by rfl, fun w'' hS => by go_simp⟩) hS0 ?_
  (simp only [List.setIfInBounds_toArray, List.set_cons_zero, List.set_cons_succ])
  refine wpAnyH_done (by kernel_rfl) ?_ _
  have HK := Lib.hid (And.intro ho hS0)
  clear hS0 hS1 f1 f2 ho hrd
  go_wp2_with fail
  go_ret
  exact ⟨_, rfl, HK.out.1, HK.out.2⟩
end Go.Proofs.YtjdbgojnpnlblaaGreat

namespace Go.Proofs.YtjdbgojnpnlblaaGreat
open Go.RowKit

set_option maxRecDepth 100000 in
theorem SecB.range {w : World} {b i : Nat} {s : List UInt8} {ss : List (List UInt8)} (h : SecB w b ss) (hi : ss[i]? = some s) : w.rangeAt b (i * 128) (cellsB s) := by
  obtain ⟨cs, h1, _, _, h4⟩ := h
  intro j v hv
  have := h4 i s hi j v hv
  rw [h1.cell]
  exact this
set_option maxRecDepth 100000 in
theorem layL_snoc (s : List UInt8) : ∀ (ss : List (List UInt8)) (l : List (List UInt8)) (i : Nat), layL l i (ss ++ [s]) = (layL l i ss).set (i + ss.length) s
  | [], _, _ => rfl
  | t :: ts, l, i => by
    have := layL_snoc s ts (l.set i t) (i + 1)
    show layL (l.set i t) (i + 1) (ts ++ [s]) = (layL (l.set i t) (i + 1) ts).set (i + (ts.length + 1)) s
    rw [this, show i + (ts.length + 1) = i + 1 + ts.length by omega]
set_option maxRecDepth 100000 in
theorem DT.keep {w w' : World} {B g : Nat} {P G : Nat → Prop} {d : DS} (h : DT w B g d P) (f : Fr G w w') (hG : ∀ b, P b → ¬ G b) : DT w' B g d P :=
  ⟨h.1.keep f hG, fun b t cs hp hb => h.2 b t cs hp (by
    unfold Blk at hb ⊢
    rw [← f.block b (h.1.2 b hp).2 (hG b hp)]
    exact hb)⟩
set_option maxRecDepth 100000 in
theorem DT.keep0 {w w' : World} {B g : Nat} {P : Nat → Prop} {d : DS} (h : DT w B g d P) (f : Fr (fun _ => False) w w') : DT w' B g d P := h.keep f (fun _ _ q => q)
/-- What a commit leaves: a log at rest beside the document's one, or a dead one. -/
def CmR (w w' : World) (B g lb L z c s K N : Nat) (P : Nat → Prop) : Prop :=
  (∃ P' d', DT w' B g d' P' ∧ d'.rd.length = N ∧
    ((∃ e q A cp, LifeS d' z c s q e K ∧ LgW w' lb g z c s e q.length false ∧ Blk w' L 43 (rlC c s (z : Int) e (.slice A q.length cp)) ∧ RcsV w' 0 (.slice A q.length cp) (q.map (·.2))) ∨
      (Ded d' z K ∧ ∃ us m, LgW w' lb g z c s us m true))) ∧ Fr (fun b => P b ∨ b = lb ∨ b = L) w w'
set_option maxRecDepth 100000 in
set_option maxHeartbeats 4000000 in
theorem commits_dead {w : World} {B g lb z c s us m : Nat} {P : Nat → Prop} {d : DS} {p : Option Addr} {A : Option Addr} {k cp : Nat} (h : DAt w B P g d) (hl : LgW w lb g z c s us m true) :
    Calls Tryz.prog 28 #[.pointer (some ⟨g, 0, none⟩), .pointer (some ⟨lb, 0, none⟩), .pointer p, .slice A k cp] w fun en w' => en = .returned (.bool true) ∧ Fr (fun _ => False) w w' := by
  obtain ⟨N, hN⟩ : ∃ N, N = d.rd.length := ⟨_, rfl⟩
  have HN := Lib.hid (And.intro hN.symm (show 0 < N by have := h.len; omega))
  have H0 := Lib.hid (And.intro h hl)
  have HSE := Lib.hid (asec_any h)
  rw [← hN] at HSE
  clear h hl hN
  go_enter Tryz.func28, Tryz.ntmps28
  go_wp2_with fail
  refine HSE.out.mono ?_
  rintro e0 w0 ⟨rfl, rfl⟩
  clear HSE
  have HSC := Lib.hid (lsectors_any H0.out.1 (n := N) (by have := HN.out.2; omega) (by rw [HN.out.1]; exact Nat.le_refl _))
  rw [List.take_of_length_le (by rw [HN.out.1]; exact Nat.le_refl _)] at HSC
  go_wp2_with fail
  refine HSC.out.mono ?_
  rintro e1 w1 ⟨bw, cw, rfl, hbw, hc1, hc2, hsb, f1⟩
  have H1 := Lib.hid (And.intro hbw (And.intro hc1 (And.intro hc2 (And.intro hsb f1))))
  have HLG := Lib.hid (H0.out.2.keep f1 id)
  clear hbw hc1 hc2 hsb f1 HSC
  go_wp2_with fail
  refine (ldead_any HLG.out).mono ?_
  rintro e2 w2 ⟨rfl, hw2⟩
  obtain rfl : w1 = w2 := hw2.symm
  go_wp2_with fail
  refine (lcommit_dead HLG.out).mono ?_
  rintro e3 w3 ⟨rfl, rfl⟩
  have HQa := Lib.hid (And.intro (H0.out.1.new H1.out.2.2.2.2) (And.intro H1.out.2.2.2.1 H1.out.2.2.2.2))
  have HSEa := Lib.hid (asec_any HQa.out.1)
  rw [HN.out.1] at HSEa
  go_wp2_with fail
  refine HSEa.out.mono ?_
  rintro eza wza ⟨rfl, rfl⟩
  clear HSEa
  have HSCa := Lib.hid (lsectors_any HQa.out.1 (n := N) (by have := HN.out.2; omega) (by rw [HN.out.1]; exact Nat.le_refl _))
  rw [List.take_of_length_le (by rw [HN.out.1]; exact Nat.le_refl _)] at HSCa
  go_wp2_with fail
  refine HSCa.out.mono ?_
  rintro exa wxa ⟨bxa, cxa, rfl, _, j1, j2, hsx, fxa⟩
  have HSMa := Lib.hid (lsame_any (hsx.secV (by rw [HN.out.1]) (by rw [HN.out.1]; exact j1) j2) ((HQa.out.2.1.keep fxa (fun q => q)).secV (by rw [HN.out.1]) (by rw [HN.out.1]; exact H1.out.2.1) H1.out.2.2.1))
  rw [decide_eq_true rfl] at HSMa
  have HFXa := Lib.hid (HQa.out.2.2.trans fxa (fun _ _ q => q))
  clear hsx j1 j2 fxa HSCa
  go_wp2_with fail
  refine HSMa.out.mono ?_
  rintro eya wya ⟨rfl, fya⟩
  have HFYa := Lib.hid (HFXa.out.trans fya (fun _ _ q => q))
  clear fya HSMa HFXa
  go_wp2_with fail
  go_ret
  exact ⟨rfl, HFYa.out⟩
set_option maxRecDepth 100000 in
set_option maxHeartbeats 8000000 in
theorem commits_any {w : World} {B g lb L z c s e K : Nat} {P : Nat → Prop} {d : DS} {q : List (Nat × List Chg)} {A : Option Addr} {cp : Nat} {v : Value} {r : List Chg} (h : DT w B g d P) (hs : LifeS d z c s q e K) (hl : LgW w lb g z c s e q.length false)
    (hb : Blk w L 43 (rlC c s (z : Int) e (.slice A q.length cp))) (hk : RcsV w 0 (.slice A q.length cp) (q.map (·.2))) (hv : RcV w v r) (hvb : ∀ b, v.ownBlock = some b → ∃ cs, Blk w b 120 cs) (hz : z ≤ 200) (hc : c ≤ 1000) :
    Calls Tryz.prog 28 #[.pointer (some ⟨g, 0, none⟩), .pointer (some ⟨lb, 0, none⟩), .pointer (some ⟨L, 0, none⟩), v] w fun en w' => en = .returned (.bool true) ∧ CmR w w' B g lb L z c s K d.rd.length P := by
  obtain ⟨N, hN⟩ : ∃ N, N = d.rd.length := ⟨_, rfl⟩
  rw [← hN]
  obtain ⟨n, hn⟩ : ∃ n, n = q.length := ⟨_, rfl⟩
  obtain ⟨Av, cv, hve, hv9, _⟩ := id hv
  obtain ⟨nr, hnr⟩ : ∃ nr, nr = r.length := ⟨_, rfl⟩
  subst hve
  rw [← hnr] at hv hvb ⊢
  rw [← hn] at hl hb hk
  have he := hs.ri.says.2.2
  have hmt : mayT c (q.length : Int) = true := by
    have h1 := hs.ri.hd.2.1
    have h2 := hs.ri.hd.2.2.1
    have h4 := hs.ri.few
    simp [mayT]
    omega
  have HN := Lib.hid (And.intro hN.symm (show 0 < N by have := h.1.len; omega))
  have H0 := Lib.hid (And.intro h (And.intro hs (And.intro hl (And.intro hb (And.intro hk (And.intro hv (And.intro hvb (And.intro hn (And.intro hnr (And.intro he hmt))))))))))
  have HSE := Lib.hid (asec_any h.1)
  rw [← hN] at HSE
  have h1000 : c ≤ 1000 := hc
  clear h hs hl hb hk hv hvb hN hn hnr he hmt hc hv9
  go_enter Tryz.func28, Tryz.ntmps28
  go_wp2_with fail
  refine HSE.out.mono ?_
  rintro e0 w0 ⟨rfl, rfl⟩
  clear HSE
  have HSC := Lib.hid (lsectors_any H0.out.1.1 (n := N) (by have := HN.out.2; omega) (by rw [HN.out.1]; exact Nat.le_refl _))
  rw [List.take_of_length_le (by rw [HN.out.1]; exact Nat.le_refl _)] at HSC
  go_wp2_with fail
  refine HSC.out.mono ?_
  rintro e1 w1 ⟨bw, cw, rfl, hbw, hc1, hc2, hsb, f1⟩
  have hd1 := H0.out.1.keep0 f1
  have H1 := Lib.hid (And.intro hbw (And.intro hc1 (And.intro hc2 (And.intro hsb f1))))
  have HR := Lib.hid (And.intro (H0.out.2.2.2.1.keep f1 (fun q => q)) (And.intro (H0.out.2.2.2.2.1.new f1) (And.intro (H0.out.2.2.2.2.2.1.keep f1 (fun _ _ q => q)) (fun b hb => by obtain ⟨cs, j⟩ := H0.out.2.2.2.2.2.2.1 b hb; exact ⟨cs, j.keep f1 (fun q => q)⟩ : ∀ b, (Value.slice Av nr cv).ownBlock = some b → ∃ cs, Blk w1 b 120 cs))))
  have HLG := Lib.hid (H0.out.2.2.1.keep f1 id)
  have HD1 := Lib.hid (And.intro (H0.out.1.1.new f1) hd1)
  clear hbw hc1 hc2 hsb f1 HSC hd1
  go_wp2_with fail
  refine (ldead_any HLG.out).mono ?_
  rintro e2 w2 ⟨rfl, hw2⟩
  obtain rfl : w1 = w2 := hw2.symm
  go_wp2_with fail
  cases hm : mayR r with
  | false =>
    have HM := Lib.hid fun w' (hw : RcV w' (.slice Av nr cv) r) => fmay_any hw
    rw [hm] at HM
    refine (lcommit_bad HLG.out HR.out.2.2.1 hm).mono ?_
    rintro e3 w3 ⟨rfl, f3⟩
    have H3 := Lib.hid f3
    clear f3 hm
    go_wp2_with fail
    refine (HM.out _ (HR.out.2.2.1.keep H3.out (fun _ _ q => q))).mono ?_
    rintro e4 w4 ⟨rfl, rfl⟩
    clear HM
    go_wp2_with fail
    refine (looks_any (HLG.out.keep H3.out id) (HR.out.1.keep H3.out (fun q => q)) H0.out.2.2.2.2.2.2.2.2.2.1 (by omega)).mono ?_
    rintro e5 w5 ⟨rfl, f5⟩
    have H5 := Lib.hid (H3.out.trans f5 (fun _ _ q => q))
    clear f5
    have HQa := Lib.hid (And.intro (HD1.out.1.new H5.out) (And.intro (H1.out.2.2.2.1.keep H5.out (fun q => q)) H5.out))
    have HSEa := Lib.hid (asec_any HQa.out.1)
    rw [HN.out.1] at HSEa
    go_wp2_with fail
    refine HSEa.out.mono ?_
    rintro eza wza ⟨rfl, rfl⟩
    clear HSEa
    have HSCa := Lib.hid (lsectors_any HQa.out.1 (n := N) (by have := HN.out.2; omega) (by rw [HN.out.1]; exact Nat.le_refl _))
    rw [List.take_of_length_le (by rw [HN.out.1]; exact Nat.le_refl _)] at HSCa
    go_wp2_with fail
    refine HSCa.out.mono ?_
    rintro exa wxa ⟨bxa, cxa, rfl, _, j1, j2, hsx, fxa⟩
    have HSMa := Lib.hid (lsame_any (hsx.secV (by rw [HN.out.1]) (by rw [HN.out.1]; exact j1) j2) ((HQa.out.2.1.keep fxa (fun q => q)).secV (by rw [HN.out.1]) (by rw [HN.out.1]; exact H1.out.2.1) H1.out.2.2.1))
    rw [decide_eq_true rfl] at HSMa
    have HFXa := Lib.hid (HQa.out.2.2.trans fxa (fun _ _ q => q))
    clear hsx j1 j2 fxa HSCa
    go_wp2_with fail
    refine HSMa.out.mono ?_
    rintro eya wya ⟨rfl, fya⟩
    have HFYa := Lib.hid (HFXa.out.trans fya (fun _ _ q => q))
    clear fya HSMa HFXa
    go_wp2_with fail
    go_ret
    have f9 := H1.out.2.2.2.2.trans HFYa.out (fun _ _ q => q)
    exact ⟨rfl, ⟨P, d, H0.out.1.keep0 f9, HN.out.1, .inl ⟨e, q, A, cp, H0.out.2.1, by rw [← H0.out.2.2.2.2.2.2.2.1]; exact HLG.out.keep HFYa.out id, by rw [← H0.out.2.2.2.2.2.2.2.1]; exact HR.out.1.keep HFYa.out (fun q => q), by rw [← H0.out.2.2.2.2.2.2.2.1]; exact HR.out.2.1.new HFYa.out⟩⟩, f9.mono (fun _ _ q => q.elim)⟩
  | true =>
    have HM := Lib.hid fun w' (hw : RcV w' (.slice Av nr cv) r) => fmay_any hw
    rw [hm] at HM
    have hnn : wneedN (nr : Nat) = needN ((bytesR r).length : Nat) := by
      have h1 := mayR_len hm
      have h2 := H0.out.2.2.2.2.2.2.2.2.1
      rw [bytesR_len H0.out.2.2.2.2.2.1.all512, ← h2]
      unfold wneedN
      rw [if_neg (by omega)]
      norm_cast
    obtain ⟨nn, hnn2⟩ : ∃ nn, nn = needN ((bytesR r).length : Nat) := ⟨_, rfl⟩
    have HNE := Lib.hid fun w' => fneed_any w' (nr : Nat)
    rw [hnn, ← hnn2] at HNE
    obtain ⟨zr, hzr⟩ : ∃ zr, zr = z - e := ⟨_, rfl⟩
    have HRM : Hid (∀ w'', Fr (fun b => b ≠ L) w1 w'' → Calls Tryz.prog 22 #[.pointer (some ⟨L, 0, none⟩)] w'' fun e w' => e = .returned (.int .i64 (zr : Nat)) ∧ w' = w''.drew) := Lib.hid fun w'' f => by
      rw [hzr]
      exact (rroom_any (HR.out.1.keep f (fun q => q rfl)) H0.out.2.2.2.2.2.2.2.2.2.1 (by omega))
    have hst5 : ∀ x ∈ r, x.p.length = 512 := H0.out.2.2.2.2.2.1.all512
    have HMM := Lib.hid (And.intro hm (And.intro hnn2 (And.intro hzr hst5)))
    refine (rcommit_any HD1.out.2 H0.out.2.1.ri (by rw [← H0.out.2.2.2.2.2.2.2.1]; exact HLG.out) HR.out.2.2.1 HR.out.2.2.2 hm H0.out.2.2.2.2.2.2.2.2.2.2 (by omega)).mono ?_
    rintro e3 w3 ⟨o1, o2⟩
    rw [← hnn2] at o1 o2
    clear hm hnn hnn2 hst5
    by_cases hfit : e + nn ≤ z
    · obtain ⟨o3, o4, ⟨P3, hd3, hp3⟩, f3⟩ := o2 hfit
      clear o1 o2
      rw [← H0.out.2.2.2.2.2.2.2.1] at o3 o4 hd3
      have hLn : ¬ (P L ∨ L = lb) := fun x => by
        rcases x with x | x
        · rcases HD1.out.2.2 L _ _ x HR.out.1 with q | q
          · exact absurd q (by decide)
          · exact absurd q (by decide)
        · have hq := HLG.out
          rw [← x] at hq
          exact absurd (blk_type HR.out.1 hq) (by decide)
      have hvn : ∀ b, (Value.slice Av nr cv).ownBlock = some b → ¬ (P b ∨ b = lb) := fun b hb x => by
        obtain ⟨cs, j⟩ := HR.out.2.2.2 b hb
        rcases x with x | x
        · exact HD1.out.2.not_chg j x
        · subst x
          exact absurd (blk_type j HLG.out) (by decide)
      have hbwl : bw < w1.heap.size := by
        obtain ⟨cs, hbb, _⟩ := H1.out.2.2.2.1
        exact hbb.lt
      have hbw3 : ¬ (P bw ∨ bw = lb) := fun x => by
        rcases x with x | x
        · have h1 := (H0.out.1.1.2 bw x).2
          have h2 := H1.out.1
          omega
        · have h1 := H0.out.2.2.1.lt
          have h2 := H1.out.1
          omega
      have hk3 := HR.out.2.1.dlog HD1.out.2 HLG.out f3
      have hP3 : ¬ P3 bw := fun x => by
        rcases hp3 bw x with x | x
        · exact hbw3 (.inl x)
        · omega
      have hub3 : ∀ b, (Value.slice Av nr cv).ownBlock = some b → ∃ cs, Blk w3 b 120 cs := fun b hb => by
        obtain ⟨cs, j⟩ := HR.out.2.2.2 b hb
        exact ⟨cs, j.keep f3 (hvn b hb)⟩
      have H3 := Lib.hid (And.intro hd3 (And.intro (HR.out.2.2.1.keep f3 hvn) (And.intro hk3 (And.intro (HR.out.1.keep f3 hLn) (And.intro (H1.out.2.2.2.1.keep f3 hbw3) (And.intro hub3 (And.intro hP3 (((H1.out.2.2.2.2.mono (fun _ _ q => q.elim)).trans f3 (fun b _ q => q.imp id .inl)) : Fr (fun b => P b ∨ b = lb ∨ b = L) w w3))))))))
      have HRM3 := Lib.hid (HRM.out w3 (f3.mono (fun b _ q e => hLn (e ▸ q))))
      have HBW := Lib.hid (And.intro hbwl hbw3)
      have hg1 : ¬ (zr : Int) < (nn : Int) := by rw [hzr]; omega
      have hg2 : ¬ (nn : Int) > (zr : Int) := hg1
      have HFIT := Lib.hid hfit
      have HSZ := Lib.hid f3.size
      clear hLn hvn hbw3 hk3 hP3 hub3 hp3 f3 hd3 HRM hbwl hzr hfit
      by_cases ok : d.settles (1 + e) (rowS c n r) = true
      · rw [if_pos ok] at o3 o4
        subst o3
        have H4 := Lib.hid (And.intro o4 ok)
        clear o4 ok
        go_wp2_with fail
        refine (HM.out _ H3.out.2.1).mono ?_
        rintro e4 w4 ⟨rfl, rfl⟩
        clear HM
        go_wp2_with fail
        refine (HNE.out _).mono ?_
        rintro e4 w4 ⟨rfl, rfl⟩
        clear HNE
        go_wp2_with fail
        refine HRM3.out.mono ?_
        rintro e4 w4 ⟨rfl, rfl⟩
        have hfd : Fr (fun _ => False) w3 w3.drew := (Fr.refl _ w3).drew
        have HRW := Lib.hid (lrow_any (H3.out.2.2.2.1.keep hfd (fun q => q)) (H3.out.2.1.keep hfd (fun _ _ q => q)) HMM.out.1 (by omega) (by have h1 := H0.out.2.1.ri.few; have h2 := H0.out.2.2.2.2.2.2.2.1; omega))
        clear HRM3 hfd
        go_wp2_with fail
        refine HRW.out.mono ?_
        rintro e5 w5 ⟨v5, rfl, ho5, f5⟩
        obtain ⟨ro, hro⟩ : ∃ ro, ro = rowS c n r := ⟨_, rfl⟩
        have hrl : ro.length = nn := by rw [hro, rowS_len]; exact HMM.out.2.1.symm
        have hra : ∀ x ∈ ro, x.length = 128 := by rw [hro]; exact rowS_all HMM.out.1 HMM.out.2.2.2
        have hn1 : 1 ≤ nn := by
          have h1 := need_many (bytes_short HMM.out.1 HMM.out.2.2.2)
          have h2 := HMM.out.2.1
          have h3 := many_pos (bytesR r).length
          omega
        rw [← hro, ← HMM.out.2.1, ← hrl] at ho5
        obtain ⟨br, cr, rfl, hbr, hcr1, hcr2, hsr⟩ := secB_own ho5 (by omega) hra
        rw [hrl] at hcr1 ⊢
        have f35 : Fr (fun _ => False) w3 w5 := ((Fr.refl _ w3).drew).trans f5 (fun _ _ q => q)
        have hlen : z + 1 ≤ N := by have h1 := H0.out.2.1.ri.len; have h2 := HN.out.1; omega
        have hne : br ≠ bw := by
          have h1 := HBW.out.1
          have h2 := HSZ.out
          have h3 : w3.drew.heap.size = w3.heap.size := rfl
          omega
        have hbs5 := H3.out.2.2.2.2.1.keep f35 (fun q => q)
        have hL5 := H3.out.2.2.2.1.keep f35 (fun q => q)
        have hLbw : L ≠ bw := by
          intro x
          obtain ⟨cs, hbb, _⟩ := hbs5
          rw [← x] at hbb
          exact absurd (blk_type hbb hL5) (by decide)
        have H5 := Lib.hid (And.intro hsr (And.intro hne (And.intro f35 (And.intro hra (And.intro hrl (And.intro hbs5 (And.intro hL5 (And.intro hLbw (And.intro hro (And.intro hlen hn1))))))))))
        clear ho5 hbr hsr hne f35 f5 hra hrl hbs5 hL5 hLbw hro hlen HRW
        have hm9 : nn ≤ 9223372036854775807 := by have h1 := HFIT.out; omega
        go_wp2_with fail
        go_loopw [13] (fun i wr => ∃ k : Nat, i = .int .i64 k ∧ k ≤ nn ∧ Hid (SecB wr bw (layL d.rd (1 + e) (ro.take k))) ∧ Hid (Fr (fun b => b = bw) w5 wr)) (fun i _ => nn - (intOf i).toNat)
        case atStart => exact ⟨0, rfl, Nat.zero_le _, Lib.hid (by rw [List.take_zero]; exact H5.out.2.2.2.2.2.1), Lib.hid (Fr.refl _ _)⟩
        case round =>
          obtain ⟨k, rfl, hk, HS, HF⟩ := hrel
          by_cases hlt : k < nn
          · obtain ⟨sx, hsx⟩ : ∃ sx, ro[k]? = some sx := ⟨_, List.getElem?_eq_getElem (by have := H5.out.2.2.2.2.1; omega)⟩
            have hs128 := H5.out.2.2.2.1 sx (List.mem_of_getElem? hsx)
            have hi0 : (0 : Int) ≤ (k : Int) := by omega
            have hi1 : (k : Int) < (nn : Int) := by omega
            obtain ⟨e1, he1⟩ : ∃ e1, e1 = 1 + e := ⟨_, rfl⟩
            obtain ⟨i1, hii⟩ : ∃ i1, i1 = e1 + k := ⟨_, rfl⟩
            have hfit9 := HFIT.out
            have hl9 := H5.out.2.2.2.2.2.2.2.2.2.1
            have hw1 : IntKind.i64.wrap (1 + (e : Int)) = (e1 : Int) := by rw [he1]; simp [IntKind.wrap, IntKind.signed, IntKind.bits]; omega
            have hw2 : IntKind.i64.wrap ((e1 : Int) + (k : Int)) = (i1 : Int) := by rw [hii]; simp [IntKind.wrap, IntKind.signed, IntKind.bits]; omega
            have hj0 : (0 : Int) ≤ (i1 : Int) := by omega
            have hj1 : (i1 : Int) < (N : Int) := by omega
            have hj2 : i1 < N := by omega
            have HC4 : Hid (∀ w'', Fr (fun b => b = bw) wr w'' → w''.cell? ⟨L, 4, none⟩ = some (.int .i64 (e : Nat))) := Lib.hid fun w'' f => by
              have hb := (H5.out.2.2.2.2.2.2.1.keep (HF.out.trans f (fun _ _ q => q)) H5.out.2.2.2.2.2.2.2.1)
              have h4 := hb.cell 4
              simp only [List.getElem?_toArray, List.getElem?_cons_zero, List.getElem?_cons_succ] at h4
              exact h4
            have HRG : Hid (∀ w'', Fr (fun b => b = bw) wr w'' → w''.rangeAt br (k * 128) (cellsB sx)) := Lib.hid fun w'' f => by
              exact (H5.out.1.keep (HF.out.trans f (fun _ _ q => q)) H5.out.2.1).range hsx
            have hset := SecB.set (HS.out.keep ((Fr.refl (fun _ => False) wr).drew) (fun q => q)) (i := i1) (s := sx) (by rw [layL_len, HN.out.1]; exact hj2) hs128
            have hnx : (layL d.rd (1 + e) (ro.take k)).set i1 sx = layL d.rd (1 + e) (ro.take (k + 1)) := by
              have h1 : ro.take (k + 1) = ro.take k ++ [sx] := by rw [List.take_add_one, hsx]; rfl
              rw [h1, layL_snoc, List.length_take, Nat.min_eq_left (by have := H5.out.2.2.2.2.1; omega), hii, he1]
            rw [hnx] at hset
            have HSET := Lib.hid (And.intro hset hs128)
            have HE := Lib.hid (And.intro he1 hii)
            clear hset hnx hsx hs128 he1 hii hfit9 hl9 hlt
            go_upto_region 16 with fail
            refine wp_region_held_drew (S := fun w' => Fr (fun b => b = bw) wr w') (by kernel_rfl) ((Fr.refl _ _).drew) (fun hS0 => ?_)
            refine anyH_take 0 98 (.slice (some ⟨bw, 0, none⟩) N cw) rfl rfl (by kernel_rfl) (by kernel_rfl) (by kernel_rfl) (fun _ _ _ h => h) (.inl ⟨by rfl, fun w'' hS => by go_simp⟩) hS0 ?_
            (simp only [List.setIfInBounds_toArray, List.set_cons_zero, List.set_cons_succ])
            refine anyH_take 1 99 (.pointer (some ⟨L, 0, none⟩)) rfl rfl (by kernel_rfl) (by kernel_rfl) (by kernel_rfl) (fun _ _ _ h => h) (.inl ⟨by rfl, fun w'' hS => by go_simp⟩) hS0 ?_
            (simp only [List.setIfInBounds_toArray, List.set_cons_zero, List.set_cons_succ])
            refine anyH_take 2 100 (.pointer (some ⟨L, 0, none⟩)) rfl rfl (by kernel_rfl) (by kernel_rfl) (by kernel_rfl) (fun _ _ _ h => h) (.inl ⟨by rfl, fun w'' hS => by go_simp⟩) hS0 ?_
            (simp only [List.setIfInBounds_toArray, List.set_cons_zero, List.set_cons_succ])
            refine anyH_take 3 101 (.pointer (some ⟨L, 4, none⟩)) rfl rfl (by kernel_rfl) (by kernel_rfl) (by kernel_rfl) (fun _ _ _ h => h) (.inl ⟨by rfl, fun w'' hS => by go_simp⟩) hS0 ?_
            (simp only [List.setIfInBounds_toArray, List.set_cons_zero, List.set_cons_succ])
            refine anyH_take 4 102 (.int .i64 (e : Nat)) rfl rfl (by kernel_rfl) (by kernel_rfl) (by kernel_rfl) (fun _ _ _ h => h) (.inl ⟨by rfl, fun w'' hS => by have q0 := HC4.out w'' hS; go_simp⟩) hS0 ?_
            (simp only [List.setIfInBounds_toArray, List.set_cons_zero, List.set_cons_succ])
            refine anyH_take 5 103 (.int .i64 (e1 : Nat)) rfl rfl (by kernel_rfl) (by kernel_rfl) (by kernel_rfl) (fun _ _ _ h => h) (.inl ⟨by rfl, fun w'' hS => by go_simp⟩) hS0 ?_
            (simp only [List.setIfInBounds_toArray, List.set_cons_zero, List.set_cons_succ])
            refine anyH_take 6 104 (.int .i64 (k : Nat)) rfl rfl (by kernel_rfl) (by kernel_rfl) (by kernel_rfl) (fun _ _ _ h => h) (.inl ⟨by rfl, fun w'' hS => by go_simp⟩) hS0 ?_
            (simp only [List.setIfInBounds_toArray, List.set_cons_zero, List.set_cons_succ])
            refine anyH_take 7 105 (.int .i64 (i1 : Nat)) rfl rfl (by kernel_rfl) (by kernel_rfl) (by kernel_rfl) (fun _ _ _ h => h) (.inl ⟨by rfl, fun w'' hS => by go_simp⟩) hS0 ?_
            (simp only [List.setIfInBounds_toArray, List.set_cons_zero, List.set_cons_succ])
            refine anyH_take 8 106 (.slice (some ⟨br, 0, none⟩) nn cr) rfl rfl (by kernel_rfl) (by kernel_rfl) (by kernel_rfl) (fun _ _ _ h => h) (.inl ⟨by rfl, fun w'' hS => by go_simp⟩) hS0 ?_
            (simp only [List.setIfInBounds_toArray, List.set_cons_zero, List.set_cons_succ])
            refine anyH_take 9 107 (.int .i64 (k : Nat)) rfl rfl (by kernel_rfl) (by kernel_rfl) (by kernel_rfl) (fun _ _ _ h => h) (.inl ⟨by rfl, fun w'' hS => by go_simp⟩) hS0 ?_
            (simp only [List.setIfInBounds_toArray, List.set_cons_zero, List.set_cons_succ])
            refine anyH_take 10 108 (.pointer (some ⟨br, k * 128, none⟩)) rfl rfl (by kernel_rfl) (by kernel_rfl) (by kernel_rfl) (fun _ _ _ h => h) (.inl ⟨by rfl, fun w'' hS => by go_simp⟩) hS0 ?_
            (simp only [List.setIfInBounds_toArray, List.set_cons_zero, List.set_cons_succ])
            refine anyH_take 11 109 (av sx) rfl rfl (by kernel_rfl) (by kernel_rfl) (by kernel_rfl) (fun _ _ _ h => h) (.inl ⟨by rfl, fun w'' hS => run_load_mid 45 _ rfl br (k * 128) rfl (cellsB sx) _ (HRG.out w'' hS) Tryz.underlying45 rfl (by rw [infoSector, cellsB_len, HSET.out.2])⟩) hS0 ?_
            (simp only [List.setIfInBounds_toArray, List.set_cons_zero, List.set_cons_succ])
            refine anyH_take 12 110 (.pointer (some ⟨bw, i1 * 128, none⟩)) rfl rfl (by kernel_rfl) (by kernel_rfl) (by kernel_rfl) (fun _ _ _ h => h) (.inl ⟨by rfl, fun w'' hS => by go_simp⟩) hS0 ?_
            (simp only [List.setIfInBounds_toArray, List.set_cons_zero, List.set_cons_succ])
            refine anyH_skip 13 (wr.drew.setCells bw (i1 * 128) (cellsB sx)) (by kernel_rfl) rfl rfl (by rfl) (run_store_mid 45 _ _ rfl bw (i1 * 128) (cellsB sx).toArray rfl rfl HSET.out.1.1 (by rw [infoSector]; simp [cellsB_len, HSET.out.2]) (all_oneCell_toArray (cellsB_one _))) (Fr.setCells (F := fun b => b = bw) (b := bw) (vs := cellsB sx) (o := i1 * 128) (.inl rfl) ((Fr.refl _ wr).drew)) ?_
            refine wpAnyH_done (by kernel_rfl) ?_ _
            have hfx : Fr (fun b => b = bw) wr (wr.drew.setCells bw (i1 * 128) (cellsB sx)) := Fr.setCells (F := fun b => b = bw) (b := bw) (vs := cellsB sx) (o := i1 * 128) (.inl rfl) ((Fr.refl _ wr).drew)
            have HNX := Lib.hid (And.intro HSET.out.1.2 (HF.out.trans hfx (fun _ _ q => q)))
            obtain ⟨WX, hWX⟩ : ∃ WX, WX = wr.drew.setCells bw (i1 * 128) (cellsB sx) := ⟨_, rfl⟩
            rw [← hWX] at HNX ⊢
            clear hWX hfx hS0 HSET
            go_wp2_with fail
            refine ⟨⟨k + 1, by norm_cast, by omega, Lib.hid HNX.out.1, Lib.hid HNX.out.2⟩, ?_⟩
            simp only [intOf]
            omega
          · have hkn : nn = k := by omega
            subst hkn
            have hsw := HS.out
            rw [List.take_of_length_le (by have := H5.out.2.2.2.2.1; omega)] at hsw
            have hf5r : Fr (fun b => b = bw) w3 wr := (H5.out.2.2.1.mono (fun _ _ q => q.elim)).trans HF.out (fun _ _ q => q)
            have htB : ∀ b cs t, Blk w3 b t cs → t ≠ 45 → ¬ b = bw := fun b cs t hb ht x => by
              obtain ⟨cs', hbb, _⟩ := H3.out.2.2.2.2.1
              rw [← x] at hbb
              exact ht (blk_type hb hbb)
            have hkr : RcsV wr 0 (.slice A n cp) (q.map (·.2)) := RcsK.types H3.out.2.2.1 hf5r (fun b cs hb => htB b cs _ hb (by decide)) (fun b cs hb => htB b cs _ hb (by decide))
            have hLr := H3.out.2.2.2.1.keep hf5r (htB L _ _ H3.out.2.2.2.1 (by decide))
            have hrr := H3.out.2.1.keep hf5r (fun b hb => by
              obtain ⟨cs, j⟩ := H3.out.2.2.2.2.2.1 b hb
              exact htB b cs _ j (by decide))
            have hubr : ∀ b, (Value.slice Av nr cv).ownBlock = some b → ∃ cs, Blk wr b 120 cs := fun b hb => by
              obtain ⟨cs, j⟩ := H3.out.2.2.2.2.2.1 b hb
              exact ⟨cs, j.keep hf5r (htB b cs _ j (by decide))⟩
            have hql : (q.map (·.2)).length = n := by rw [List.length_map]; exact H0.out.2.2.2.2.2.2.2.1.symm
            obtain ⟨A1, n1, c1, w6, A2, c2, w7, hr1, hr2, hv7, f7⟩ := hkr.more hrr hubr (by rw [hql]; have h1 := H0.out.2.1.ri.few; have h2 := H0.out.2.2.2.2.2.2.2.1; omega) 29 29
            rw [hql] at hr2 hv7
            obtain ⟨n2, hn2⟩ : ∃ n2, n2 = n + 1 := ⟨_, rfl⟩
            rw [← hn2] at hr2 hv7
            have hb7 := hLr.keep f7 (fun q => q)
            have hb8 := hb7.set_ 3 (.slice A2 n2 c2)
            have hb8' : Blk (w7.setCell ⟨L, 3, none⟩ (.slice A2 n2 c2)) L 43 (rlC c s (z : Int) e (.slice A2 n2 c2)) := hb8
            have hb9 := hb8'.set_ 4 (.int .i64 ((e : Int) + (nn : Int)))
            have hb9' : Blk ((w7.setCell ⟨L, 3, none⟩ (.slice A2 n2 c2)).setCell ⟨L, 4, none⟩ (.int .i64 ((e : Int) + (nn : Int)))) L 43 (rlC c s (z : Int) (e + nn) (.slice A2 n2 c2)) := hb9
            have fs : Fr (fun b => b = L) w7 ((w7.setCell ⟨L, 3, none⟩ (.slice A2 n2 c2)).setCell ⟨L, 4, none⟩ (.int .i64 ((e : Int) + (nn : Int)))) := ((Fr.refl (fun b => b = L) w7).setCell (p := ⟨L, 3, none⟩) (.inl rfl) (.slice A2 n2 c2)).setCell (p := ⟨L, 4, none⟩) (.inl rfl) _
            have hk9 : RcsV ((w7.setCell ⟨L, 3, none⟩ (.slice A2 n2 c2)).setCell ⟨L, 4, none⟩ (.int .i64 ((e : Int) + (nn : Int)))) 0 (.slice A2 n2 c2) (q.map (·.2) ++ [r]) := RcsK.set hv7 hb7 fs
            have fbig : Fr (fun b => b = bw ∨ b = L) w3 ((w7.setCell ⟨L, 3, none⟩ (.slice A2 n2 c2)).setCell ⟨L, 4, none⟩ (.int .i64 ((e : Int) + (nn : Int)))) := ((hf5r.mono (fun _ _ q => .inl q)).trans f7 (fun _ _ q => q.elim)).trans fs (fun _ _ q => .inr q)
            have hw3 : IntKind.i64.wrap ((e : Int) + (nn : Int)) = (e : Int) + (nn : Int) := by have h1 := HFIT.out; simp [IntKind.wrap, IntKind.signed, IntKind.bits]; omega
            have k3 := hLr.cell 3
            have j3 := hb7.cell 3
            have j4 := hb8'.cell 4
            have z3 := hb7.frozen 3
            have y4 := hb7.cell 4
            have x4 := hb7.frozen 4
            have z4 := hb8'.frozen 4
            simp only [List.getElem?_toArray, List.getElem?_cons_zero, List.getElem?_cons_succ] at k3 j3 j4 y4
            have hbws : SecB ((w7.setCell ⟨L, 3, none⟩ (.slice A2 n2 c2)).setCell ⟨L, 4, none⟩ (.int .i64 ((e : Int) + (nn : Int)))) bw (layL d.rd (1 + e) ro) := (hsw.keep f7 (fun q => q)).keep fs (fun x => H5.out.2.2.2.2.2.2.2.1 x.symm)
            obtain ⟨WX, hWX⟩ : ∃ WX, WX = (w7.setCell ⟨L, 3, none⟩ (.slice A2 n2 c2)).setCell ⟨L, 4, none⟩ (.int .i64 ((e : Int) + (nn : Int))) := ⟨_, rfl⟩
            rw [← hWX] at hb9' fs hk9 fbig hbws
            have hnb : ∀ b, P3 b → ¬ (b = bw ∨ b = L) := fun b hp x => by
              rcases x with x | x
              · rw [x] at hp
                exact H3.out.2.2.2.2.2.2.1 hp
              · rw [x] at hp
                rcases H3.out.1.2 L _ _ hp H3.out.2.2.2.1 with q | q
                · exact absurd q (by decide)
                · exact absurd q (by decide)
            have hdX := H3.out.1.keep fbig hnb
            have hlb3 : ¬ (lb = bw ∨ lb = L) := fun x => by
              rcases x with x | x
              · exact htB lb _ _ H4.out.1 (by decide) x
              · have hq := H4.out.1
                rw [x] at hq
                exact absurd (blk_type hq H3.out.2.2.2.1) (by decide)
            have hlgX := H4.out.1.keep fbig hlb3
            have fall : Fr (fun b => P b ∨ b = lb ∨ b = L) w WX := H3.out.2.2.2.2.2.2.2.trans fbig (fun b hb x => by
              rcases x with x | x
              · have h1 := H1.out.1
                omega
              · exact .inr (.inr x))
            have hsr := settle_row (d := d) (i := 1 + e) (ss := rowS c n r) H4.out.2
            rw [← H5.out.2.2.2.2.2.2.2.2.1] at hsr
            rw [← H5.out.2.2.2.2.2.2.2.2.1] at hdX
            have hlife : LifeS (d.settle (1 + e) ro) z c s (q ++ [(c, r)]) (e + nn) K := by
              have h := H0.out.2.1.commit HMM.out.1 HMM.out.2.2.2 H0.out.2.2.2.2.2.2.2.2.2.2 (by rw [← HMM.out.2.1]; exact HFIT.out) (by rw [← H0.out.2.2.2.2.2.2.2.1]; exact H4.out.2)
              rw [← HMM.out.2.1, ← H0.out.2.2.2.2.2.2.2.1, ← H5.out.2.2.2.2.2.2.2.2.1] at h
              exact h
            have hql2 : (q ++ [(c, r)]).length = n2 := by rw [List.length_append, hn2, H0.out.2.2.2.2.2.2.2.1]; rfl
            have HSL := Lib.hid (And.intro (show (d.settle (1 + e) ro).rd.length = N by rw [settle_len]; exact HN.out.1) (And.intro (show (layL d.rd (1 + e) ro).length = N by rw [layL_len]; exact HN.out.1) (And.intro hlife hql2)))
            have HX := Lib.hid (And.intro hdX (And.intro hlgX (And.intro hb9' (And.intro hk9 (And.intro fall (And.intro hbws (And.intro hsr hn2)))))))
            have HR1 := Lib.hid hr1
            have HR2 := Lib.hid hr2
            have HWX := Lib.hid hWX
            clear hsw hf5r htB hkr hLr hrr hubr hql hr1 hr2 hv7 f7 hb7 hb8 hb8' hb9 hb9' fs hk9 fbig hnb hdX hlb3 hlgX fall hbws hsr hn2 hWX hlt hk hlife hql2
            go_wp2_with (first
              | (at_builtin; refine wpList_push_rec rfl (.const (.slice none 0 0)) (.tmp 115) rfl rfl rfl HR1.out rfl ?_)
              | (at_builtin; refine wpList_push_rec rfl (.tmp 116) (.tmp 118) rfl rfl rfl HR2.out rfl ?_))
            rw [← HWX.out]
            refine (looks_any (by rw [HX.out.2.2.2.2.2.2.2]; exact HX.out.2.1) HX.out.2.2.1 HFIT.out (by omega)).mono ?_
            rintro e8 w8 ⟨rfl, f8⟩
            have H8 := Lib.hid f8
            clear f8 k3 j3 j4 z3 y4 x4 z4
            have HQw := Lib.hid (And.intro (HX.out.1.1.new H8.out) (And.intro (HX.out.2.2.2.2.2.1.keep H8.out (fun q => q)) H8.out))
            have HSEw := Lib.hid (asec_any HQw.out.1)
            rw [HSL.out.1] at HSEw
            go_wp2_with fail
            refine HSEw.out.mono ?_
            rintro ezw wzw ⟨rfl, rfl⟩
            clear HSEw
            have HSCw := Lib.hid (lsectors_any HQw.out.1 (n := N) (by have := HN.out.2; omega) (by rw [HSL.out.1]; exact Nat.le_refl _))
            rw [List.take_of_length_le (by rw [HSL.out.1]; exact Nat.le_refl _), HX.out.2.2.2.2.2.2.1.1] at HSCw
            go_wp2_with fail
            refine HSCw.out.mono ?_
            rintro exw wxw ⟨bxw, cxw, rfl, _, j1, j2, hsx, fxw⟩
            have HSMw := Lib.hid (lsame_any (hsx.secV (by rw [HSL.out.2.1]) (by rw [HSL.out.2.1]; exact j1) j2) ((HQw.out.2.1.keep fxw (fun q => q)).secV (by rw [HSL.out.2.1]) (by rw [HSL.out.2.1]; exact H1.out.2.1) H1.out.2.2.1))
            rw [decide_eq_true rfl] at HSMw
            have HFXw := Lib.hid (HQw.out.2.2.trans fxw (fun _ _ q => q))
            clear hsx j1 j2 fxw HSCw
            go_wp2_with fail
            refine HSMw.out.mono ?_
            rintro eyw wyw ⟨rfl, fyw⟩
            have HFYw := Lib.hid (HFXw.out.trans fyw (fun _ _ q => q))
            clear fyw HSMw HFXw
            have HOP := Lib.hid (aopenL_any (HX.out.1.1.new HFYw.out))
            rw [HX.out.2.2.2.2.2.2.1.2] at HOP
            go_wp2_with fail
            refine HOP.out.mono ?_
            rintro e12 w12 ⟨vo, rfl, hvo, f12⟩
            obtain ⟨Ao, co, rfl, _, _⟩ := own_slice hvo
            have HF12 := Lib.hid (HFYw.out.trans f12 (fun _ _ q => q))
            clear hvo f12 HOP
            go_wp2_with fail
            go_ret
            refine ⟨rfl, ⟨P3, _, HX.out.1.keep0 HF12.out, HSL.out.1, .inl ⟨e + nn, q ++ [(c, r)], A2, c2, HSL.out.2.2.1, ?_, ?_, ?_⟩⟩, HX.out.2.2.2.2.1.trans HF12.out (fun _ _ q => q.elim)⟩
            · rw [HSL.out.2.2.2, HX.out.2.2.2.2.2.2.2]
              exact HX.out.2.1.keep HF12.out id
            · rw [HSL.out.2.2.2]
              exact HX.out.2.2.1.keep HF12.out (fun q => q)
            · rw [HSL.out.2.2.2, List.map_append]
              exact HX.out.2.2.2.1.new HF12.out
      · rw [Bool.not_eq_true] at ok
        rw [ok] at o3 o4
        simp only [Bool.false_eq_true, if_false] at o3 o4
        subst o3
        have hdd := settle_dd ok
        have HDE := Lib.hid fun w' (f : Fr (fun _ => False) w3 w') => adead_any (H3.out.1.1.new f)
        rw [hdd] at HDE
        have H4 := Lib.hid (And.intro o4 (Ded.commit H0.out.2.1 HMM.out.1 HMM.out.2.2.2 H0.out.2.2.2.2.2.2.2.2.2.2 (by rw [← HMM.out.2.1]; exact HFIT.out) (by omega) (by rw [← H0.out.2.2.2.2.2.2.2.1]; exact ok)))
        clear o4 ok hdd
        go_wp2_with fail
        refine (HM.out _ H3.out.2.1).mono ?_
        rintro e4 w4 ⟨rfl, rfl⟩
        clear HM
        go_wp2_with fail
        refine (HNE.out _).mono ?_
        rintro e4 w4 ⟨rfl, rfl⟩
        clear HNE
        go_wp2_with fail
        refine HRM3.out.mono ?_
        rintro e4 w4 ⟨rfl, rfl⟩
        have hfd := Lib.hid ((Fr.refl (fun _ => False) w3).drew)
        go_wp2_with fail
        refine (HDE.out _ hfd.out).mono ?_
        rintro e5 w5 ⟨rfl, rfl⟩
        go_wp2_with fail
        refine (ldead_any (H4.out.1.keep hfd.out id)).mono ?_
        rintro e6 w6 ⟨rfl, rfl⟩
        go_wp2_with fail
        go_ret
        refine ⟨rfl, ⟨P3, _, H3.out.1.keep0 hfd.out, by rw [settle_len]; exact HN.out.1, .inr ⟨by rw [H0.out.2.2.2.2.2.2.2.1]; exact H4.out.2, _, _, H4.out.1.keep hfd.out id⟩⟩, H3.out.2.2.2.2.2.2.2.trans hfd.out (fun _ _ q => q.elim)⟩
    · obtain ⟨rfl, f3⟩ := o1 (by omega)
      have H3 := Lib.hid f3
      have he9 := H0.out.2.2.2.2.2.2.2.2.2.1
      have hg1 : (zr : Int) < (nn : Int) := by rw [hzr]; omega
      have hg2 : (nn : Int) > (zr : Int) := hg1
      clear o1 o2 hzr hfit f3 he9
      go_wp2_with fail
      refine (HM.out _ (HR.out.2.2.1.keep H3.out (fun _ _ q => q))).mono ?_
      rintro e4 w4 ⟨rfl, rfl⟩
      clear HM
      go_wp2_with fail
      refine (HNE.out _).mono ?_
      rintro e4 w4 ⟨rfl, rfl⟩
      clear HNE
      go_wp2_with fail
      refine (HRM.out _ (H3.out.mono (fun _ _ q => q.elim))).mono ?_
      rintro e4 w4 ⟨rfl, rfl⟩
      have H4 := Lib.hid H3.out.drew
      clear HRM
      go_wp2_with fail
      refine (looks_any (HLG.out.keep H4.out id) (HR.out.1.keep H4.out (fun q => q)) H0.out.2.2.2.2.2.2.2.2.2.1 (by omega)).mono ?_
      rintro e5 w5 ⟨rfl, f5⟩
      have H5 := Lib.hid (H4.out.trans f5 (fun _ _ q => q))
      clear f5
      have HQb := Lib.hid (And.intro (HD1.out.1.new H5.out) (And.intro (H1.out.2.2.2.1.keep H5.out (fun q => q)) H5.out))
      have HSEb := Lib.hid (asec_any HQb.out.1)
      rw [HN.out.1] at HSEb
      go_wp2_with fail
      refine HSEb.out.mono ?_
      rintro ezb wzb ⟨rfl, rfl⟩
      clear HSEb
      have HSCb := Lib.hid (lsectors_any HQb.out.1 (n := N) (by have := HN.out.2; omega) (by rw [HN.out.1]; exact Nat.le_refl _))
      rw [List.take_of_length_le (by rw [HN.out.1]; exact Nat.le_refl _)] at HSCb
      go_wp2_with fail
      refine HSCb.out.mono ?_
      rintro exb wxb ⟨bxb, cxb, rfl, _, j1, j2, hsx, fxb⟩
      have HSMb := Lib.hid (lsame_any (hsx.secV (by rw [HN.out.1]) (by rw [HN.out.1]; exact j1) j2) ((HQb.out.2.1.keep fxb (fun q => q)).secV (by rw [HN.out.1]) (by rw [HN.out.1]; exact H1.out.2.1) H1.out.2.2.1))
      rw [decide_eq_true rfl] at HSMb
      have HFXb := Lib.hid (HQb.out.2.2.trans fxb (fun _ _ q => q))
      clear hsx j1 j2 fxb HSCb
      go_wp2_with fail
      refine HSMb.out.mono ?_
      rintro eyb wyb ⟨rfl, fyb⟩
      have HFYb := Lib.hid (HFXb.out.trans fyb (fun _ _ q => q))
      clear fyb HSMb HFXb
      go_wp2_with fail
      go_ret
      have f9 := H1.out.2.2.2.2.trans HFYb.out (fun _ _ q => q)
      exact ⟨rfl, ⟨P, d, H0.out.1.keep0 f9, HN.out.1, .inl ⟨e, q, A, cp, H0.out.2.1, by rw [← H0.out.2.2.2.2.2.2.2.1]; exact HLG.out.keep HFYb.out id, by rw [← H0.out.2.2.2.2.2.2.2.1]; exact HR.out.1.keep HFYb.out (fun q => q), by rw [← H0.out.2.2.2.2.2.2.2.1]; exact HR.out.2.1.new HFYb.out⟩⟩, f9.mono (fun _ _ q => q.elim)⟩
end Go.Proofs.YtjdbgojnpnlblaaGreat

namespace Go.Proofs.YtjdbgojnpnlblaaGreat
open Go.RowKit

/-- The log and the document's one, by the pointers to them: both at rest, or a dead disk. -/
def StA (w : World) (B g z K : Nat) (xo qo : Option Addr) (d : DS) : Prop :=
  (∃ lb L c s e q A cp, xo = some ⟨lb, 0, none⟩ ∧ qo = some ⟨L, 0, none⟩ ∧ B ≤ lb ∧ B ≤ L ∧ LifeS d z c s q e K ∧ LgW w lb g z c s e q.length false ∧ Blk w L 43 (rlC c s (z : Int) e (.slice A q.length cp)) ∧ RcsV w 0 (.slice A q.length cp) (q.map (·.2))) ∨
    (Ded d z K ∧ (xo = none ∨ ∃ lb c s us m, xo = some ⟨lb, 0, none⟩ ∧ LgW w lb g z c s us m true))
/-- The law's own variables: the disk, the size, the document's log, the log. -/
structure EnvW (w : World) (B bd bs bq bx g z : Nat) (xo qo : Option Addr) : Prop where
  d : Blk w bd 24 #[.pointer (some ⟨g, 0, none⟩)]
  s : Blk w bs 3 #[.int .i64 (z : Nat)]
  q : Blk w bq 38 #[.pointer qo]
  x : Blk w bx 28 #[.pointer xo]
  ld : B ≤ bd
  ls : B ≤ bs
  lq : B ≤ bq
  lx : B ≤ bx
set_option maxRecDepth 100000 in
theorem EnvW.keep {w w' : World} {B bd bs bq bx g z : Nat} {xo qo : Option Addr} {F : Nat → Prop} (h : EnvW w B bd bs bq bx g z xo qo) (f : Fr F w w') (hd : ¬ F bd) (hs : ¬ F bs) (hq : ¬ F bq) (hx : ¬ F bx) : EnvW w' B bd bs bq bx g z xo qo :=
  ⟨h.d.keep f hd, h.s.keep f hs, h.q.keep f hq, h.x.keep f hx, h.ld, h.ls, h.lq, h.lx⟩
set_option maxRecDepth 100000 in
theorem EnvW.new {w w' : World} {B bd bs bq bx g z : Nat} {xo qo : Option Addr} (h : EnvW w B bd bs bq bx g z xo qo) (f : Fr (fun _ => False) w w') : EnvW w' B bd bs bq bx g z xo qo := h.keep f (fun q => q) (fun q => q) (fun q => q) (fun q => q)
set_option maxRecDepth 100000 in
/-- They lie apart from the disk. -/
theorem EnvW.apart {w : World} {B bd bs bq bx g z : Nat} {xo qo : Option Addr} {P : Nat → Prop} {d : DS} (h : EnvW w B bd bs bq bx g z xo qo) (hd : DT w B g d P) : ¬ P bd ∧ ¬ P bs ∧ ¬ P bq ∧ ¬ P bx := by
  have key : ∀ b t cs, Blk w b t cs → t ≠ 74 → t ≠ 45 → ¬ P b := fun b t cs hb h1 h2 hp => by
    rcases hd.2 b t cs hp hb with q | q
    · exact h1 q
    · exact h2 q
  exact ⟨key _ _ _ h.d (by decide) (by decide), key _ _ _ h.s (by decide) (by decide), key _ _ _ h.q (by decide) (by decide), key _ _ _ h.x (by decide) (by decide)⟩
set_option maxRecDepth 100000 in
theorem EnvW.disk {w w' : World} {B bd bs bq bx g z : Nat} {xo qo : Option Addr} {P : Nat → Prop} {d : DS} (h : EnvW w B bd bs bq bx g z xo qo) (hd : DT w B g d P) (f : Fr P w w') : EnvW w' B bd bs bq bx g z xo qo :=
  h.keep f (h.apart hd).1 (h.apart hd).2.1 (h.apart hd).2.2.1 (h.apart hd).2.2.2
/-- All of it. -/
def PlS (w : World) (B bd bs bq bx g z K N : Nat) : Prop := ∃ P d xo qo, EnvW w B bd bs bq bx g z xo qo ∧ DT w B g d P ∧ d.rd.length = N ∧ StA w B g z K xo qo d
/-- What may lie on the disk where it is opened. -/
def OpA (d : DS) (z K : Nat) : Prop := (∃ c s q e, c ≤ K ∧ RI d z c s q e) ∨ Ded d z K
set_option maxRecDepth 100000 in
theorem OpA.head {d : DS} {z K : Nat} (h : OpA d z K) : isHd d.head = true ∧ z + 1 ≤ d.rd.length := by
  rcases h with ⟨c, s, q, e, hc, hr⟩ | h
  · exact ⟨hr.hd.facts.1, hr.len⟩
  · exact ⟨h.hd, h.len⟩
set_option maxRecDepth 100000 in
/-- Open, whatever may lie there. -/
theorem wopen_st {w : World} {B g z K : Nat} {P : Nat → Prop} {d : DS} (h : DT w B g d P) (ho : OpA d z K) (h4 : 4 ≤ z) (hz : z ≤ 4000) (hK : K ≤ 1000) : Calls Tryz.prog 8 #[.pointer (some ⟨g, 0, none⟩), .int .i64 z] w fun en w' =>
    ((en = .returned (.tuple #[.pointer none, .slice none 0 0, .int .i64 10]) ∧ ∃ d' P', DT w' B g d' P' ∧ d'.rd.length = d.rd.length ∧ Ded d' z (K + 1)) ∨
      (∃ lb v c s q e P', en = .returned (.tuple #[.pointer (some ⟨lb, 0, none⟩), v, .int .i64 0]) ∧ RI d z c s q e ∧ d.settles 0 [hdS (c + 1) s] = true ∧ c ≤ K ∧ w.heap.size ≤ lb ∧ LgW w' lb g z (c + 1) s e q.length false ∧ RcsV w' 0 v (q.map (·.2)) ∧ DT w' B g (d.settle 0 [hdS (c + 1) s]) P' ∧ (∀ b, P' b → P b ∨ w.heap.size ≤ b) ∧ LifeS (d.settle 0 [hdS (c + 1) s]) z (c + 1) s q e (K + 1))) ∧ Fr P w w' := by
  rcases ho with ⟨c, s, q, e, hc, hr⟩ | hd
  · have hm : c < maxC := by simp only [maxC]; omega
    refine (ropen_any h hr h4 hz hm).mono ?_
    rintro en w' ⟨o1, o2, ⟨P', hd', hp'⟩, f⟩
    by_cases ok : d.settles 0 [hdS (c + 1) s] = true
    · obtain ⟨lb, v, rfl, h1, h2, h3⟩ := o2 ok
      exact ⟨.inr ⟨lb, v, c, s, q, e, P', rfl, hr, ok, hc, h1, h2, h3.zero, hd', hp', LifeS.opens hr hm (by omega) ok⟩, f⟩
    · rw [Bool.not_eq_true] at ok
      exact ⟨.inl ⟨o1 ok, _, P', hd', settle_len _ _ _, Ded.opens hr (by omega) hm ok⟩, f⟩
  · have hm : cntOf d.head < maxC := by have := hd.hc; simp only [maxC]; omega
    refine (open_go h.1 h4 hz hd.len hd.hd hm hd.mo).mono ?_
    rintro en w' ⟨o1, _, ⟨P', hp1, hp2, _⟩, f⟩
    obtain ⟨k1, k2⟩ := hd.settle 0 [hdS (cntOf d.head + 1) (sinOf d.head)]
    obtain ⟨P2, hd2, _⟩ := DT.of hp1 hp2
    exact ⟨.inl ⟨o1 k1, _, P2, hd2, settle_len _ _ _, k2.mono (Nat.le_succ _)⟩, f⟩
set_option maxRecDepth 100000 in
set_option maxHeartbeats 8000000 in
theorem wplays1_any {w : World} {B bd bs bq bx g z K N : Nat} {xo qo : Option Addr} {P : Nat → Prop} {d : DS} (hE : EnvW w B bd bs bq bx g z xo qo) (h : DT w B g d P) (hN : d.rd.length = N) (ho : OpA d z K) (h4 : 4 ≤ z) (hz : z ≤ 200) (hN5 : N = z + 5) (hK : K ≤ 200) (hB : B ≤ w.heap.size) :
    Calls Tryz.prog 25 #[.pointer (some ⟨bd, 0, none⟩), .pointer (some ⟨bs, 0, none⟩), .pointer (some ⟨bq, 0, none⟩), .pointer (some ⟨bx, 0, none⟩)] w fun en w' => en = .returned (.bool true) ∧ PlS w' B bd bs bq bx g z (K + 1) N ∧ Fr (fun b => B ≤ b) w w' := by
  have hin : ((N : Nat) : Int) = (z : Int) + 5 := by omega
  have HN := Lib.hid (And.intro hN (And.intro hN5 (And.intro hK (And.intro hB (And.intro h4 ho)))))
  have H0 := Lib.hid (And.intro hE h)
  have HSC := Lib.hid (lsectors_any h.1 (n := N) (by omega) (by rw [hN]; exact Nat.le_refl _))
  rw [List.take_of_length_le (by rw [hN]; exact Nat.le_refl _), hin] at HSC
  have kd := hE.d.cell 0
  have ks := hE.s.cell 0
  simp only [List.getElem?_toArray, List.getElem?_cons_zero] at kd ks
  have hz200 : z ≤ 200 := hz
  clear hE h hN ho h4 hK hB hz hN5 hin
  go_enter Tryz.func25, Tryz.ntmps25
  go_wp2_with fail
  refine HSC.out.mono ?_
  rintro e1 w1 ⟨bw, cw, rfl, hbw, hc1, hc2, hsb, f1⟩
  have H1 := Lib.hid (And.intro hbw (And.intro hc1 (And.intro hc2 (And.intro hsb f1))))
  have HE1 := Lib.hid (H0.out.1.new f1)
  have HD1 := Lib.hid (H0.out.2.keep0 f1)
  clear hbw hc1 hc2 hsb f1 HSC kd ks
  have htl : (d.rd.take (z + 1)).length = z + 1 := by rw [List.length_take, HN.out.1, HN.out.2.1]; omega
  have hgd : (d.rd.take (z + 1)).getD 0 [] = d.head := by
    unfold DS.head
    rw [List.getD_eq_getElem?_getD, List.getElem?_take, if_pos (by omega), ← List.getD_eq_getElem?_getD]
  have hsl : ∀ W, (Instr.slice 33 (.slice (some ⟨bw, 0, none⟩) N cw) none (some (.int .i64 (1 + (z : Int)))) none).run Tryz.prog W = .ok (.slice (some ⟨bw, 0, none⟩) (1 + z) cw) W := by
    have := (secV_take (H1.out.2.2.2.1.secV (by rw [HN.out.1]) (by rw [HN.out.1]; exact H1.out.2.1) H1.out.2.2.1) (1 + z) (by rw [HN.out.1]; have := HN.out.2.1; omega)).2
    exact this
  have HSY : Hid (Calls Tryz.prog 14 #[.slice (some ⟨bw, 0, none⟩) (1 + z) cw] w1 (SaysR w1 (d.rd.take (z + 1)))) := Lib.hid (by
    have := (secV_take (H1.out.2.2.2.1.secV (by rw [HN.out.1]) (by rw [HN.out.1]; exact H1.out.2.1) H1.out.2.2.1) (1 + z) (by rw [HN.out.1]; have := HN.out.2.1; omega)).1
    rw [Nat.add_comm 1 z] at this ⊢
    exact rsays_any this (by rw [htl]; omega) (by rw [htl]; omega))
  have HG := Lib.hid (And.intro hgd htl)
  have hi1 : (1 : Int) + (z : Int) ≤ (N : Int) := by have := HN.out.2.1; omega
  have hm0 : (0 : Int) < (N : Int) := by have := HN.out.2.1; omega
  have ks1 := HE1.out.s.cell 0
  simp only [List.getElem?_toArray, List.getElem?_cons_zero] at ks1
  clear htl hgd
  go_wp2_with fail
  refine HSY.out.mono ?_
  rintro e2 w2 ⟨_, q2, f2⟩
  rw [HG.out.1, HG.out.2] at q2
  obtain ⟨L, rfl, vL, hbL, hlL, hkL⟩ := q2 HN.out.2.2.2.2.2.head.1
  rw [show (((z + 1 : Nat) : Int) - 1) = (z : Int) by omega] at hbL
  obtain ⟨AL, cL, rfl, hcL⟩ := hkL.form
  rw [List.length_map] at hbL hkL hcL
  have hbw1 : bw < w1.heap.size := by
    obtain ⟨cs, q, _⟩ := H1.out.2.2.2.1
    exact q.lt
  have hE2 := HE1.out.new f2
  have hq2 := hE2.q.set_ 0 (.pointer (some ⟨L, 0, none⟩))
  have fq : Fr (fun b => b = bq) w2 (w2.setCell ⟨bq, 0, none⟩ (.pointer (some ⟨L, 0, none⟩))) := (Fr.refl (fun b => b = bq) w2).setCell (p := ⟨bq, 0, none⟩) (.inl rfl) _
  have nqd : bd ≠ bq := fun x => by
    have hq := hE2.d
    rw [x] at hq
    exact absurd (blk_type hq hE2.q) (by decide)
  have nqs : bs ≠ bq := fun x => by
    have hq := hE2.s
    rw [x] at hq
    exact absurd (blk_type hq hE2.q) (by decide)
  have nqx : bx ≠ bq := fun x => by
    have hq := hE2.x
    rw [x] at hq
    exact absurd (blk_type hq hE2.q) (by decide)
  have hE3 : EnvW (w2.setCell ⟨bq, 0, none⟩ (.pointer (some ⟨L, 0, none⟩))) B bd bs bq bx g z xo (some ⟨L, 0, none⟩) := ⟨hE2.d.keep fq nqd, hE2.s.keep fq nqs, hq2, hE2.x.keep fq nqx, hE2.ld, hE2.ls, hE2.lq, hE2.lx⟩
  have hLq : L ≠ bq := fun x => by
    have hq := hbL
    rw [x] at hq
    exact absurd (blk_type hq hE2.q) (by decide)
  have hwq : bw ≠ bq := fun x => by
    obtain ⟨cs, hq, _⟩ := H1.out.2.2.2.1
    rw [x] at hq
    exact absurd (blk_type hq HE1.out.q) (by decide)
  have hbL3 := hbL.keep fq hLq
  have hkL3 : RcsV (w2.setCell ⟨bq, 0, none⟩ (.pointer (some ⟨L, 0, none⟩))) 0 (.slice AL _ cL) _ := RcsK.types (RcsV.zero hkL) fq (fun b cs hb x => by
    rw [x] at hb
    exact absurd (blk_type hb hE2.q) (by decide)) (fun b cs hb x => by
    rw [x] at hb
    exact absurd (blk_type hb hE2.q) (by decide))
  have hsb3 := (H1.out.2.2.2.1.keep f2 (fun q => q)).keep fq hwq
  have hd3 := (HD1.out.keep0 f2).keep fq (fun b hp x => by
    rw [x] at hp
    exact (hE2.apart (HD1.out.keep0 f2)).2.2.1 hp)
  have f13 : Fr (fun b => B ≤ b) w (w2.setCell ⟨bq, 0, none⟩ (.pointer (some ⟨L, 0, none⟩))) := ((H1.out.2.2.2.2.trans f2 (fun _ _ q => q)).mono (fun _ _ q => q.elim)).trans fq (fun b _ x => by
    rw [x]
    exact hE2.lq)
  have kq := hE2.q.cell 0
  have zq := hE2.q.frozen 0
  have kd3 := hE3.d.cell 0
  have ks3 := hE3.s.cell 0
  have kq3 := hE3.q.cell 0
  simp only [List.getElem?_toArray, List.getElem?_cons_zero] at kq kd3 ks3 kq3
  have hBL : B ≤ L := by
    have h1 := HN.out.2.2.2.1
    have h2 := H1.out.2.2.2.2.size
    omega
  have HO := Lib.hid (wopen_st hd3 HN.out.2.2.2.2.2 HN.out.2.2.2.2.1 (by omega) (by have := HN.out.2.2.1; omega))
  obtain ⟨W3, hW3⟩ : ∃ W3, W3 = w2.setCell ⟨bq, 0, none⟩ (.pointer (some ⟨L, 0, none⟩)) := ⟨_, rfl⟩
  have h23 : w2.heap.size ≤ W3.heap.size := by rw [hW3]; exact fq.size
  have HW3 := Lib.hid hW3
  rw [← hW3] at hE3 hbL3 hkL3 hsb3 hd3 f13 HO
  have H3 := Lib.hid (And.intro hE3 (And.intro hbL3 (And.intro hkL3 (And.intro hsb3 (And.intro hd3 (And.intro f13 hBL))))))
  have HBW := Lib.hid (And.intro hbw1 (And.intro (show bw < W3.heap.size by have := f2.size; omega) (show L < W3.heap.size from hbL3.lt)))
  clear hq2 nqd nqs nqx hE3 hLq hwq hbL3 hkL3 hsb3 hd3 f13 hE2 q2 hbL hlL hkL hcL HSY hW3 f2 hsl hBL hbw1 fq
  go_wp2_with fail
  rw [← HW3.out]
  refine HO.out.mono ?_
  rintro e4 w4 ⟨o4, f4⟩
  clear HO kd3 ks3 kq3 kq zq HW3
  have HE4 := Lib.hid (H3.out.1.disk H3.out.2.2.2.2.1 f4)
  have HF4 := Lib.hid (show Fr (fun b => B ≤ b) w w4 from H3.out.2.2.2.2.2.1.trans f4 (fun b _ q => (H3.out.2.2.2.2.1.1.2 b q).1))
  rcases o4 with ⟨rfl, d4, P4, hd4, hl4, hde⟩ | ⟨lb, v, c, s, q, e, P4, rfl, hri, hok, hcK, hlb, hlg, hrc, hd4, hp4, hlf⟩
  · have hE4 := HE4.out
    have fx : Fr (fun b => b = bx) w4 (w4.setCell ⟨bx, 0, none⟩ (.pointer none)) := (Fr.refl (fun b => b = bx) w4).setCell (p := ⟨bx, 0, none⟩) (.inl rfl) _
    have hx5 := hE4.x.set_ 0 (.pointer none)
    have nd : bd ≠ bx := fun x => by
      have hq := hE4.d
      rw [x] at hq
      exact absurd (blk_type hq hE4.x) (by decide)
    have ns : bs ≠ bx := fun x => by
      have hq := hE4.s
      rw [x] at hq
      exact absurd (blk_type hq hE4.x) (by decide)
    have nq : bq ≠ bx := fun x => by
      have hq := hE4.q
      rw [x] at hq
      exact absurd (blk_type hq hE4.x) (by decide)
    have hE5 : EnvW (w4.setCell ⟨bx, 0, none⟩ (.pointer none)) B bd bs bq bx g z none (some ⟨L, 0, none⟩) := ⟨hE4.d.keep fx nd, hE4.s.keep fx ns, hE4.q.keep fx nq, hx5, hE4.ld, hE4.ls, hE4.lq, hE4.lx⟩
    have hd5 := hd4.keep fx (fun b hp x => by
      rw [x] at hp
      exact (hE4.apart hd4).2.2.2 hp)
    have kx := hE4.x.cell 0
    have zx := hE4.x.frozen 0
    have kd5 := hE5.d.cell 0
    simp only [List.getElem?_toArray, List.getElem?_cons_zero] at kx kd5
    have HDE := Lib.hid (adead_any hd5.1)
    rw [hde.dd] at HDE
    have HP := Lib.hid (show PlS (w4.setCell ⟨bx, 0, none⟩ (.pointer none)) B bd bs bq bx g z (K + 1) N from ⟨P4, d4, none, some ⟨L, 0, none⟩, hE5, hd5, by rw [hl4]; exact HN.out.1, .inr ⟨hde, .inl rfl⟩⟩)
    have HF5 := Lib.hid (HF4.out.trans fx (fun b _ x => by
      rw [x]
      exact hE4.lx))
    clear hd4 hde hl4 fx hx5 nd ns nq hE5 hd5 hE4 f4 HE4
    go_wp2_with fail
    refine HDE.out.mono ?_
    rintro e6 w6 ⟨rfl, rfl⟩
    go_wp2_with fail
    go_ret
    exact ⟨rfl, HP.out, HF5.out⟩
  · obtain ⟨Av, cv, hve, _⟩ := hrc.form
    rw [List.length_map] at hve
    obtain ⟨n, hn⟩ : ∃ n, n = q.length := ⟨_, rfl⟩
    rw [← hn] at hve hlg
    subst hve
    obtain ⟨k1, k2, k3⟩ := hri.hd.facts
    have hsy := hri.says
    have hsl2 := hri.len_q
    have hrl : ¬ P L ∨ True := .inr trivial
    have hLP : ¬ P L := fun x => by
      rcases H3.out.2.2.2.2.1.2 L _ _ x H3.out.2.1 with q | q
      · exact absurd q (by decide)
      · exact absurd q (by decide)
    have hbL4 := H3.out.2.1.keep f4 hLP
    have hkL4 := H3.out.2.2.1.disk H3.out.2.2.2.2.1 f4
    have hPw : ¬ P bw := fun x => by
      have h1 := (H0.out.2.1.2 bw x).2
      have h2 := H1.out.1
      omega
    have hsb4 := H3.out.2.2.2.1.keep f4 hPw
    have hP4w : ¬ P4 bw := fun x => by
      rcases hp4 bw x with y | y
      · exact hPw y
      · have := HBW.out.2.1
        omega
    have ebd : (d.rd.take (z + 1)).drop 1 = bodyOf d z := rfl
    rw [k2, k3, ebd] at hbL4 hkL4
    rw [hsy.2.1, hsl2, ← hn] at hbL4
    rw [hsy.1, hsl2, ← hn] at hkL4
    have hs1000 : s ≤ 1000 ∧ c ≤ 1000 ∧ 1 ≤ s := ⟨Nat.le_trans hri.hd.2.2.1 (Nat.le_trans hcK (by have := HN.out.2.2.1; omega)), by have := HN.out.2.2.1; omega, hri.hd.2.1⟩
    obtain ⟨s1, hs1⟩ : ∃ s1, s1 = hdS (c + 1) s := ⟨_, rfl⟩
    rw [← hs1] at hok hd4 hlf
    have hset := settle_row hok
    have hset1 : (d.settle 0 [s1]).rd = d.rd.set 0 s1 := hset.1
    have hs1l : s1.length = 128 := by rw [hs1]; exact hdS_len _ _
    have h4L := hbL4.set_ 0 (.int .u64 ((c : Int) + 1))
    have h4L' : Blk (w4.setCell ⟨L, 0, none⟩ (.int .u64 ((c : Int) + 1))) L 43 (rlC (c + 1) s (z : Int) e (.slice AL n cL)) := h4L
    have fL : Fr (fun b => b = L) w4 (w4.setCell ⟨L, 0, none⟩ (.int .u64 ((c : Int) + 1))) := (Fr.refl (fun b => b = L) w4).setCell (p := ⟨L, 0, none⟩) (.inl rfl) _
    have htL : ∀ b t cs, Blk w4 b t cs → t ≠ 43 → ¬ b = L := fun b t cs hb ht x => by
      rw [x] at hb
      exact ht (blk_type hb hbL4)
    have hE4 := HE4.out
    have hE5 := hE4.keep fL (htL _ _ _ hE4.d (by decide)) (htL _ _ _ hE4.s (by decide)) (htL _ _ _ hE4.q (by decide)) (htL _ _ _ hE4.x (by decide))
    have hlg5 := hlg.keep fL (htL _ _ _ hlg (by decide))
    have hrc5 : RcsV (w4.setCell ⟨L, 0, none⟩ (.int .u64 ((c : Int) + 1))) 0 (.slice Av n cv) (q.map (·.2)) := RcsK.types (show RcsK w4 0 (.slice Av n cv) _ from hrc) fL (fun b cs hb => htL b _ cs hb (by decide)) (fun b cs hb => htL b _ cs hb (by decide))
    have hkL5 : RcsV (w4.setCell ⟨L, 0, none⟩ (.int .u64 ((c : Int) + 1))) 0 (.slice AL n cL) (q.map (·.2)) := RcsK.types hkL4 fL (fun b cs hb => htL b _ cs hb (by decide)) (fun b cs hb => htL b _ cs hb (by decide))
    have hd5 := hd4.keep fL (fun b hp x => by
      rw [x] at hp
      rcases hd4.2 L _ _ hp hbL4 with y | y
      · exact absurd y (by decide)
      · exact absurd y (by decide))
    have hsb5 := hsb4.keep fL (fun x => by
      obtain ⟨cs, hq, _⟩ := hsb4
      exact htL bw _ cs hq (by decide) x)
    have kq4 := hE4.q.cell 0
    have kL4 := hbL4.cell 0
    have zL4 := hbL4.frozen 0
    simp only [List.getElem?_toArray, List.getElem?_cons_zero] at kq4 kL4
    have hw1 : IntKind.u64.wrap ((c : Int) + 1) = (c : Int) + 1 := by have := hs1000.2.1; simp [IntKind.wrap, IntKind.signed, IntKind.bits]; omega
    have HF5 := Lib.hid (HF4.out.trans fL (fun b _ x => by
      rw [x]
      exact H3.out.2.2.2.2.2.2))
    obtain ⟨W5, hW5⟩ : ∃ W5, W5 = w4.setCell ⟨L, 0, none⟩ (.int .u64 ((c : Int) + 1)) := ⟨_, rfl⟩
    have HW5 := Lib.hid hW5
    rw [← hW5] at h4L' hE5 hlg5 hrc5 hkL5 hd5 hsb5 HF5
    have hBlb : B ≤ lb := by
      have h1 := H3.out.2.2.2.2.2.1.size
      have h2 := HN.out.2.2.2.1
      omega
    have H5 := Lib.hid (And.intro hE5 (And.intro h4L' (And.intro hlg5 (And.intro hrc5 (And.intro hkL5 (And.intro hd5 (And.intro hsb5 (And.intro hP4w (And.intro hBlb (And.intro hset1 (And.intro hlf (And.intro hs1 (And.intro hs1l (And.intro hs1000 hn))))))))))))))
    have HSET := Lib.hid hset.2
    have hC : Hid (∀ w'', Fr (fun b => b = bw) W5 w'' → w''.cell? ⟨bq, 0, none⟩ = some (.pointer (some ⟨L, 0, none⟩)) ∧ w''.cell? ⟨L, 0, none⟩ = some (.int .u64 ((c : Int) + 1)) ∧ w''.cell? ⟨L, 1, none⟩ = some (.int .u64 (s : Nat))) := Lib.hid fun w'' f => by
      have hnq : bq ≠ bw := fun x => by
        obtain ⟨cs, hq, _⟩ := H5.out.2.2.2.2.2.2.1
        rw [← x] at hq
        exact absurd (blk_type hq H5.out.1.q) (by decide)
      have hnL : L ≠ bw := fun x => by
        obtain ⟨cs, hq, _⟩ := H5.out.2.2.2.2.2.2.1
        rw [← x] at hq
        exact absurd (blk_type hq H5.out.2.1) (by decide)
      have h1 := (H5.out.1.q.keep f hnq).cell 0
      have h2 := (H5.out.2.1.keep f hnL).cell 0
      have h3 := (H5.out.2.1.keep f hnL).cell 1
      simp only [List.getElem?_toArray, List.getElem?_cons_zero, List.getElem?_cons_succ] at h1 h2 h3
      exact ⟨h1, h2, h3⟩
    have hLw : L ≠ bq := htL _ _ _ hE4.q (by decide) |> fun h x => h x.symm
    clear hlg hrc hd4 hp4 hlf hri hok k1 k2 k3 hsy hsl2 hrl hLP hbL4 hkL4 hPw hsb4 hP4w ebd hset hset1 hs1l h4L h4L' fL htL hE4 hE5 hlg5 hrc5 hkL5 hd5 hsb5 hW5 hBlb hlb hs1000 hs1 f4 hn
    have hw1' : IntKind.u64.wrap ((c : Int) + 1) = (c : Int) + 1 := hw1
    have hmz : ¬ N = 0 := by have := HN.out.2.1; omega
    go_upto_region 10 with fail
    rw [← HW5.out]
    clear kq4 kL4 zL4
    refine wp_region_held_drew (S := fun w' => Fr (fun b => b = bw) W5 w') (by kernel_rfl) ((Fr.refl _ _).drew) (fun hS0 => ?_)
    refine anyH_take 0 45 (.slice (some ⟨bw, 0, none⟩) N cw) rfl rfl (by kernel_rfl) (by kernel_rfl) (by kernel_rfl) (fun _ _ _ h => h) (.inl ⟨by rfl, fun w'' hS => by go_simp⟩) hS0 ?_
    (simp only [List.setIfInBounds_toArray, List.set_cons_zero, List.set_cons_succ])
    refine anyH_take 1 46 (.pointer (some ⟨L, 0, none⟩)) rfl rfl (by kernel_rfl) (by kernel_rfl) (by kernel_rfl) (fun _ _ _ h => h) (.inl ⟨by rfl, fun w'' hS => by have q0 := (hC.out w'' hS).1; go_simp⟩) hS0 ?_
    (simp only [List.setIfInBounds_toArray, List.set_cons_zero, List.set_cons_succ])
    refine anyH_take 2 47 (.pointer (some ⟨L, 0, none⟩)) rfl rfl (by kernel_rfl) (by kernel_rfl) (by kernel_rfl) (fun _ _ _ h => h) (.inl ⟨by rfl, fun w'' hS => by go_simp⟩) hS0 ?_
    (simp only [List.setIfInBounds_toArray, List.set_cons_zero, List.set_cons_succ])
    refine anyH_take 3 48 (.pointer (some ⟨L, 0, none⟩)) rfl rfl (by kernel_rfl) (by kernel_rfl) (by kernel_rfl) (fun _ _ _ h => h) (.inl ⟨by rfl, fun w'' hS => by go_simp⟩) hS0 ?_
    (simp only [List.setIfInBounds_toArray, List.set_cons_zero, List.set_cons_succ])
    refine anyH_take 4 49 (.int .u64 ((c : Int) + 1)) rfl rfl (by kernel_rfl) (by kernel_rfl) (by kernel_rfl) (fun _ _ _ h => h) (.inl ⟨by rfl, fun w'' hS => by have q0 := (hC.out w'' hS).2.1; go_simp⟩) hS0 ?_
    (simp only [List.setIfInBounds_toArray, List.set_cons_zero, List.set_cons_succ])
    refine anyH_take 5 50 (.pointer (some ⟨L, 0, none⟩)) rfl rfl (by kernel_rfl) (by kernel_rfl) (by kernel_rfl) (fun _ _ _ h => h) (.inl ⟨by rfl, fun w'' hS => by have q0 := (hC.out w'' hS).1; go_simp⟩) hS0 ?_
    (simp only [List.setIfInBounds_toArray, List.set_cons_zero, List.set_cons_succ])
    refine anyH_take 6 51 (.pointer (some ⟨L, 0, none⟩)) rfl rfl (by kernel_rfl) (by kernel_rfl) (by kernel_rfl) (fun _ _ _ h => h) (.inl ⟨by rfl, fun w'' hS => by go_simp⟩) hS0 ?_
    (simp only [List.setIfInBounds_toArray, List.set_cons_zero, List.set_cons_succ])
    refine anyH_take 7 52 (.pointer (some ⟨L, 1, none⟩)) rfl rfl (by kernel_rfl) (by kernel_rfl) (by kernel_rfl) (fun _ _ _ h => h) (.inl ⟨by rfl, fun w'' hS => by go_simp⟩) hS0 ?_
    (simp only [List.setIfInBounds_toArray, List.set_cons_zero, List.set_cons_succ])
    refine anyH_take 8 53 (.int .u64 (s : Nat)) rfl rfl (by kernel_rfl) (by kernel_rfl) (by kernel_rfl) (fun _ _ _ h => h) (.inl ⟨by rfl, fun w'' hS => by have q0 := (hC.out w'' hS).2.2; go_simp⟩) hS0 ?_
    (simp only [List.setIfInBounds_toArray, List.set_cons_zero, List.set_cons_succ])
    refine anyH_enter 9 54 (f := 15) (args := #[.int .u64 ((c : Int) + 1), .int .u64 (s : Nat)]) (by kernel_rfl) rfl rfl (by rfl) (by go_simp) ?_
    refine (rhead_any W5.drew (c + 1) s (by have := H5.out.2.2.2.2.2.2.2.2.2.2.2.2.2.1.2.1; omega) (by have := H5.out.2.2.2.2.2.2.2.2.2.2.2.2.2.1.1; omega)).mono ?_
    rintro e6 w6 ⟨rfl, f6⟩
    rw [← H5.out.2.2.2.2.2.2.2.2.2.2.2.1]
    have g6 : Fr (fun _ => False) W5 w6 := Fr.trans ((Fr.refl _ W5).drew) f6 (fun _ _ q => q)
    have g6b : Fr (fun b => b = bw) W5 w6 := g6.mono (fun _ _ q => q.elim)
    refine ⟨_, rfl, g6b, ?_⟩
    (simp only [List.setIfInBounds_toArray, List.set_cons_zero, List.set_cons_succ])
    obtain ⟨th, hst⟩ := (H5.out.2.2.2.2.2.2.1.keep g6 (fun q => q)).set (i := 0) (s := s1) (by rw [HN.out.1, HN.out.2.1]; omega) H5.out.2.2.2.2.2.2.2.2.2.2.2.2.1
    rw [Nat.zero_mul] at th hst
    refine anyH_take 10 55 (.pointer (some ⟨bw, 0, none⟩)) rfl rfl (by kernel_rfl) (by kernel_rfl) (by kernel_rfl) (fun _ _ _ h => h) (.inl ⟨by rfl, fun w'' hS => by go_simp⟩) g6b ?_
    (simp only [List.setIfInBounds_toArray, List.set_cons_zero, List.set_cons_succ])
    refine anyH_skip 11 (w6.setCells bw 0 (cellsB s1)) (by kernel_rfl) rfl rfl (by rfl) (run_store_mid 45 _ _ rfl bw 0 (cellsB s1).toArray rfl rfl th (by rw [infoSector]; simp [cellsB_len, H5.out.2.2.2.2.2.2.2.2.2.2.2.2.1]) (all_oneCell_toArray (cellsB_one _))) (Fr.setCells (F := fun b => b = bw) (b := bw) (vs := cellsB s1) (o := 0) (.inl rfl) g6b) ?_
    refine wpAnyH_done (by kernel_rfl) ?_ _
    have hfx : Fr (fun b => b = bw) W5 (w6.setCells bw 0 (cellsB s1)) := Fr.setCells (F := fun b => b = bw) (b := bw) (vs := cellsB s1) (o := 0) (.inl rfl) g6b
    obtain ⟨WX, hWX⟩ : ∃ WX, WX = w6.setCells bw 0 (cellsB s1) := ⟨_, rfl⟩
    rw [← hWX] at hst hfx ⊢
    have htw : ∀ b t cs, Blk W5 b t cs → t ≠ 45 → ¬ b = bw := fun b t cs hb ht x => by
      obtain ⟨cs', hq, _⟩ := H5.out.2.2.2.2.2.2.1
      rw [← x] at hq
      exact ht (blk_type hb hq)
    have hEX := H5.out.1.keep hfx (htw _ _ _ H5.out.1.d (by decide)) (htw _ _ _ H5.out.1.s (by decide)) (htw _ _ _ H5.out.1.q (by decide)) (htw _ _ _ H5.out.1.x (by decide))
    have hLX := H5.out.2.1.keep hfx (htw _ _ _ H5.out.2.1 (by decide))
    have hlX := H5.out.2.2.1.keep hfx (htw _ _ _ H5.out.2.2.1 (by decide))
    have hrX := RcsK.types (show RcsK W5 0 (.slice Av n cv) _ from H5.out.2.2.2.1) hfx (fun b cs hb => htw b _ cs hb (by decide)) (fun b cs hb => htw b _ cs hb (by decide))
    have hkX := RcsK.types (show RcsK W5 0 (.slice AL n cL) _ from H5.out.2.2.2.2.1) hfx (fun b cs hb => htw b _ cs hb (by decide)) (fun b cs hb => htw b _ cs hb (by decide))
    have hdX := H5.out.2.2.2.2.2.1.keep hfx (fun b hp x => H5.out.2.2.2.2.2.2.2.1 (x ▸ hp))
    have fX : Fr (fun b => B ≤ b) w WX := HF5.out.trans hfx (fun b hb x => by
      have h1 := H1.out.1
      omega)
    have fx : Fr (fun b => b = bx) WX (WX.setCell ⟨bx, 0, none⟩ (.pointer (some ⟨lb, 0, none⟩))) := (Fr.refl (fun b => b = bx) WX).setCell (p := ⟨bx, 0, none⟩) (.inl rfl) _
    have htx : ∀ b t cs, Blk WX b t cs → t ≠ 28 → ¬ b = bx := fun b t cs hb ht x => by
      rw [x] at hb
      exact ht (blk_type hb hEX.x)
    have hE8 : EnvW (WX.setCell ⟨bx, 0, none⟩ (.pointer (some ⟨lb, 0, none⟩))) B bd bs bq bx g z (some ⟨lb, 0, none⟩) (some ⟨L, 0, none⟩) := ⟨hEX.d.keep fx (htx _ _ _ hEX.d (by decide)), hEX.s.keep fx (htx _ _ _ hEX.s (by decide)), hEX.q.keep fx (htx _ _ _ hEX.q (by decide)), hEX.x.set_ 0 _, hEX.ld, hEX.ls, hEX.lq, hEX.lx⟩
    have hL8 := hLX.keep fx (htx _ _ _ hLX (by decide))
    have hl8 := hlX.keep fx (htx _ _ _ hlX (by decide))
    have hr8 := RcsK.types hrX fx (fun b cs hb => htx b _ cs hb (by decide)) (fun b cs hb => htx b _ cs hb (by decide))
    have hk8 := RcsK.types hkX fx (fun b cs hb => htx b _ cs hb (by decide)) (fun b cs hb => htx b _ cs hb (by decide))
    have hd8 := hdX.keep fx (fun b hp x => (hEX.apart hdX).2.2.2 (x ▸ hp))
    have hs8 := hst.keep fx (fun x => by
      obtain ⟨cs, hq, _⟩ := hst
      exact htx bw _ cs hq (by decide) x)
    have kx := hEX.x.cell 0
    have zx := hEX.x.frozen 0
    have kq8 := hE8.q.cell 0
    have kL8 := hL8.cell 3
    simp only [List.getElem?_toArray, List.getElem?_cons_zero, List.getElem?_cons_succ] at kx kq8 kL8
    obtain ⟨W8, hW8⟩ : ∃ W8, W8 = WX.setCell ⟨bx, 0, none⟩ (.pointer (some ⟨lb, 0, none⟩)) := ⟨_, rfl⟩
    have HW8 := Lib.hid hW8
    have hx8 : bx = bx := rfl
    have f8 : Fr (fun b => B ≤ b) w (WX.setCell ⟨bx, 0, none⟩ (.pointer (some ⟨lb, 0, none⟩))) := fX.trans fx (fun b _ x => by
      rw [x]
      exact hEX.lx)
    rw [← hW8] at hE8 hL8 hl8 hr8 hk8 hd8 hs8 f8
    have H8 := Lib.hid (And.intro hE8 (And.intro hL8 (And.intro hl8 (And.intro hr8 (And.intro hk8 (And.intro hd8 (And.intro hs8 f8)))))))
    have HLEN := Lib.hid (And.intro (show (d.settle 0 [s1]).rd.length = N by rw [settle_len]; exact HN.out.1) (show (d.rd.set 0 s1).length = N by rw [List.length_set]; exact HN.out.1))
    clear hEX hLX hlX hrX hkX hdX fX fx htx hE8 hL8 hl8 hr8 hk8 hd8 hs8 hW8 f8 hst hfx htw hWX g6 g6b f6 th hS0 hC
    have HRA := Lib.hid (rall_same (RcsK.rd H8.out.2.2.2.1) (RcsK.rd H8.out.2.2.2.2.1))
    go_wp2_with fail
    rw [← HW8.out]
    refine HRA.out.mono ?_
    rintro e9 w9 ⟨rfl, f9⟩
    clear HRA kx zx kq8 kL8
    have H9 := Lib.hid (And.intro (H8.out.1.new f9) f9)
    have kx9 := H9.out.1.x.cell 0
    have kq9 := H9.out.1.q.cell 0
    simp only [List.getElem?_toArray, List.getElem?_cons_zero] at kx9 kq9
    clear f9
    go_wp2_with fail
    refine (looks_any (H8.out.2.2.1.keep H9.out.2 id) (H8.out.2.1.keep H9.out.2 (fun q => q)) (by have := H5.out.2.2.2.2.2.2.2.2.2.2.1.ri.says.2.2; exact this) (by omega)).mono ?_
    rintro e10 w10 ⟨rfl, f10⟩
    have H10 := Lib.hid (And.intro (H9.out.1.new f10) (H9.out.2.trans f10 (fun _ _ q => q)))
    have kx10 := H10.out.1.x.cell 0
    have kd10 := H10.out.1.d.cell 0
    have ks10 := H10.out.1.s.cell 0
    simp only [List.getElem?_toArray, List.getElem?_cons_zero] at kx10 kd10 ks10
    clear f10 kx9 kq9
    go_wp2_with fail
    refine (ldead_any (H8.out.2.2.1.keep H10.out.2 id)).mono ?_
    rintro e11 w11 ⟨rfl, hw11⟩
    obtain rfl : w10 = w11 := hw11.symm
    have HSC := Lib.hid (lsectors_any (H8.out.2.2.2.2.2.1.1.new H10.out.2) (n := N) (by have := HN.out.2.1; omega) (by rw [HLEN.out.1]; exact Nat.le_refl _))
    rw [List.take_of_length_le (by rw [HLEN.out.1]; exact Nat.le_refl _), H5.out.2.2.2.2.2.2.2.2.2.1, show ((N : Nat) : Int) = (z : Int) + 5 by have := HN.out.2.1; omega] at HSC
    go_wp2_with fail
    refine HSC.out.mono ?_
    rintro e12 w12 ⟨b12, c12, rfl, _, j1, j2, hs12, f12⟩
    have f12' := H10.out.2.trans f12 (fun _ _ q => q)
    have HSM := Lib.hid (lsame_any (hs12.secV (by rw [HLEN.out.2]) (by rw [HLEN.out.2]; exact j1) j2) ((H8.out.2.2.2.2.2.2.1.keep f12' (fun q => q)).secV (by rw [HLEN.out.2]) (by rw [HLEN.out.2]; exact H1.out.2.1) H1.out.2.2.1))
    rw [decide_eq_true rfl] at HSM
    have H12 := Lib.hid f12'
    clear hs12 j1 j2 f12 f12' HSC kx10 kd10 ks10
    go_wp2_with fail
    refine HSM.out.mono ?_
    rintro e13 w13 ⟨rfl, f13⟩
    have H13 := Lib.hid (H12.out.trans f13 (fun _ _ q => q))
    clear f13 HSM
    go_wp2_with fail
    go_ret
    refine ⟨rfl, ⟨P4, d.settle 0 [s1], some ⟨lb, 0, none⟩, some ⟨L, 0, none⟩, H8.out.1.new H13.out, H8.out.2.2.2.2.2.1.keep0 H13.out, HLEN.out.1, .inl ⟨lb, L, c + 1, s, e, q, AL, cL, rfl, rfl, H5.out.2.2.2.2.2.2.2.2.1, H3.out.2.2.2.2.2.2, H5.out.2.2.2.2.2.2.2.2.2.2.1, ?_, ?_, ?_⟩⟩, H8.out.2.2.2.2.2.2.2.trans H13.out (fun _ _ q => q.elim)⟩
    · rw [← H5.out.2.2.2.2.2.2.2.2.2.2.2.2.2.2]
      exact H8.out.2.2.1.keep H13.out id
    · rw [← H5.out.2.2.2.2.2.2.2.2.2.2.2.2.2.2]
      exact H8.out.2.1.keep H13.out (fun q => q)
    · rw [← H5.out.2.2.2.2.2.2.2.2.2.2.2.2.2.2]
      exact H8.out.2.2.2.2.1.new H13.out
end Go.Proofs.YtjdbgojnpnlblaaGreat

