/- wal: Format. -/
import Derived.Test.YtjdbgojnpnlblaaGreatVfo
namespace Go.Proofs.YtjdbgojnpnlblaaGreat
open Go.RowKit

theorem settle_dead {d : DS} {i : Nat} {ss : List (List UInt8)} (h : d.settles i ss = false) (j : Nat) (ts : List (List UInt8)) : (d.settle i ss).settles j ts = false ∧ (d.settle i ss).settle j ts = d.settle i ss := by
  have hd : (d.lay i ss).alive = false := h
  have e1 : d.settle i ss = (d.lay i ss).step := by unfold DS.settle DS.flushed; rw [if_neg (by rw [hd]; decide)]
  have h1 := alive_step hd
  have h2 := lay_dead h1.1 j ts
  rw [e1]
  refine ⟨h2.1, ?_⟩
  show ((d.lay i ss).step.lay j ts).flushed = _
  unfold DS.flushed
  rw [if_neg (by rw [h2.1]; decide), h2.2, h1.2]
theorem forget_dead {d : DS} (h : d.forgets = false) (j : Nat) (ts : List (List UInt8)) : d.forget.settles j ts = false ∧ d.forget.settle j ts = d.forget := by
  unfold DS.forgets at h
  unfold DS.forget
  split at h
  · rename_i hf
    rw [if_pos hf]
    exact settle_dead h j ts
  · cases h
theorem write_vs_le (d : DS) (i j : Nat) (s : List UInt8) : ((d.write i s).vs j).length ≤ (d.vs j).length + 2 := by
  unfold DS.write
  split
  · simp only [DS.put]
    split
    · rename_i e
      split
      · simp
      · subst e
        simp [DS.step]
    · simp [DS.step]
  · simp [DS.step]
theorem lay_vs_low (d : DS) (i : Nat) (ss : List (List UInt8)) {j : Nat} (h : j < i) : (d.lay i ss).vs j = d.vs j := by
  induction ss generalizing d i with
  | nil => rfl
  | cons t ts ih => exact (ih _ _ (by omega)).trans (write_vs (by omega))
theorem lay_vs_le (d : DS) (i : Nat) (ss : List (List UInt8)) (j : Nat) : ((d.lay i ss).vs j).length ≤ (d.vs j).length + 2 := by
  induction ss generalizing d i with
  | nil => exact Nat.le_add_right _ _
  | cons t ts ih =>
    show (((d.write i t).lay (i + 1) ts).vs j).length ≤ _
    by_cases h : j = i
    · rw [lay_vs_low _ _ _ (by omega)]
      exact write_vs_le d i j t
    · have := ih (d.write i t) (i + 1)
      rwa [write_vs h] at this
theorem settle_vs_le (d : DS) (i : Nat) (ss : List (List UInt8)) (j : Nat) : ((d.settle i ss).vs j).length ≤ (d.vs j).length + 2 := by
  unfold DS.settle DS.flushed
  split
  · simp [DS.flush]
  · exact lay_vs_le d i ss j
theorem forget_vs_le (d : DS) (j : Nat) : (d.forget.vs j).length ≤ (d.vs j).length + 2 := by
  unfold DS.forget
  split
  · exact settle_vs_le _ _ _ _
  · exact Nat.le_add_right _ _
theorem forget_len (d : DS) : d.forget.rd.length = d.rd.length := by
  unfold DS.forget
  split
  · exact settle_len _ _ _
  · rfl

def DS.format (d : DS) (z : Nat) : DS := (d.forget.settle 1 (List.replicate z (nought 128))).settle 0 [hdS 1 1]
def DS.formats (d : DS) (z : Nat) : Bool := (d.forget.settle 1 (List.replicate z (nought 128))).settles 0 [hdS 1 1]
section
variable {w : World} {B g : Nat} {P : Nat → Prop} {d : DS} {v : Value} {ss : List (List UInt8)}
theorem SecV.zeros {w : World} {b : Nat} (n : Nat) (hn : n ≤ 100000) (hb : Blk w b 45 (cellsB (nought (n * 128))).toArray) : SecV w (.slice (some ⟨b, 0, none⟩) n n) (List.replicate n (nought 128)) := by
  refine ⟨_, n, by rw [List.length_replicate], by rw [List.length_replicate]; exact Nat.le_refl _, by simp [maxLen]; omega, fun _ => ⟨b, 0, rfl, fun i x hi => ?_⟩⟩
  have hlt : i < n := by
    have := (List.getElem?_eq_some_iff.1 hi).1
    simpa using this
  have hx : x = nought 128 := by
    have := List.mem_of_getElem? hi
    exact (List.mem_replicate.1 this).2
  subst hx
  refine ⟨nought_len _, ?_⟩
  have := hb.range (i * 128) 128
  rw [Nat.zero_add]
  have e : ((nought (n * 128)).drop (i * 128)).take 128 = nought 128 := by
    unfold nought
    rw [List.drop_replicate, List.take_replicate]
    congr 1
    have : (i + 1) * 128 ≤ n * 128 := Nat.mul_le_mul_right _ (by omega)
    omega
  rwa [e] at this
theorem sector_11 (w : World) : Calls Tryz.prog 41 #[.agg #[.int .u64 1, .int .u64 1]] w fun e w' => e = .returned (av (hdS 1 1)) ∧ Fr (fun _ => False) w w' :=
  sector_any w 1 1 (by omega) (by omega)
set_option maxRecDepth 100000 in
theorem format_bad (h : DAt w B P g d) (z : Int) (hz0 : -9223372036854775808 ≤ z) (hz1 : z ≤ 9223372036854775807) (hf : fitE d.rd.length z ≠ 0) :
    Calls Tryz.prog 12 #[.pointer (some ⟨g, 0, none⟩), .int .i64 z] w fun e w' => e = .returned (.int .i64 2) ∧ w = w' := by
  have HT := Lib.hid (fits_any h z hz0 hz1)
  have hf2 : fitE d.rd.length z = 2 := by unfold fitE at hf ⊢; split at hf <;> simp_all
  rw [hf2] at HT
  clear hf hf2 h
  go_enter Tryz.func12, Tryz.ntmps12
  go_wp2_with fail
  refine HT.out.mono ?_
  rintro e w' ⟨rfl, rfl⟩
  go_wp2_with fail
  go_ret
  exact ⟨rfl, rfl⟩
set_option maxRecDepth 100000 in
set_option maxHeartbeats 2000000 in
theorem format_any (h : DAt w B P g d) (hN : ∀ j, (d.vs j).length ≤ 9990) {z : Nat} (h4 : 4 ≤ z) (hz : z ≤ 4000) (hzl : z + 1 ≤ d.rd.length) : Calls Tryz.prog 12 #[.pointer (some ⟨g, 0, none⟩), .int .i64 z] w fun e w' =>
    e = .returned (.int .i64 (if d.formats z then 0 else 10)) ∧ (∃ P', DAt w' B P' g (d.format z) ∧ ∀ b, P' b → P b ∨ w.heap.size ≤ b) ∧ Fr P w w' := by
  have HT := Lib.hid (fits_any h (z : Int) (by omega) (by omega))
  rw [show fitE d.rd.length (z : Int) = 0 by unfold fitE; rw [if_neg (by omega)]] at HT
  have HG := Lib.hid (forget_any h (fun j => Nat.le_trans (hN j) (by omega)))
  have HD := Lib.hid (And.intro h.len.2 (And.intro hN (And.intro hzl (And.intro h4 hz))))
  obtain ⟨r, hr⟩ : ∃ r : Int, r = if d.formats z then 0 else 10 := ⟨_, rfl⟩
  rw [← hr]
  have HR := Lib.hid hr
  clear h hN hr h4 hzl
  go_enter Tryz.func12, Tryz.ntmps12
  go_wp2_with fail
  refine HT.out.mono ?_
  rintro e w' ⟨rfl, rfl⟩
  clear HT
  go_wp2_with fail
  cases hfg : d.forgets with
  | false =>
    rw [hfg] at HG
    have q1 := forget_dead hfg 1 (List.replicate z (nought 128))
    have q2 := forget_dead hfg 0 [hdS 1 1]
    have HE := Lib.hid (show d.format z = d.forget ∧ r = 10 from ⟨by unfold DS.format; rw [q1.2, q2.2], by rw [HR.out]; unfold DS.formats; rw [q1.2, q2.1]; rfl⟩)
    refine HG.out.mono ?_
    rintro e w1 ⟨rfl, hp, hf⟩
    have H1 := Lib.hid (And.intro hp hf)
    clear hp hf HG hfg q1 q2
    go_wp2_with fail
    go_ret
    rw [HE.out.1, HE.out.2]
    exact ⟨rfl, H1.out.1, H1.out.2⟩
  | true =>
    rw [hfg] at HG
    refine HG.out.mono ?_
    rintro e w1 ⟨rfl, ⟨P1, hp1, hp2⟩, hf1⟩
    have H1 := Lib.hid (And.intro hp1 (And.intro hp2 hf1))
    clear hp1 hp2 hf1 HG hfg
    have hmk := make_sectors w1 z (by omega)
    have hz8 := hz
    go_wp2_with fail
    have hb2 := Blk.new w1 45 (cellsB (nought (z * 128))).toArray
    have f2 : Fr (fun _ => False) w1 (w1.alloc (.cells (cellsB (nought (z * 128))).toArray 45)) := (Fr.refl _ _).alloc _
    generalize w1.alloc (.cells (cellsB (nought (z * 128))).toArray 45) = w2 at *
    have HS := Lib.hid (settle_any (H1.out.1.new f2) (i := 1) (SecV.zeros z (by omega) hb2) (fun b hb q => by
        injection hb with hb
        have h1 := (H1.out.1.2 b q).2
        simp at hb
        omega) (by rw [List.length_replicate, forget_len]; have := HD.out.2.2.1; omega) (by rw [forget_len]; exact HD.out.1) (fun j => Nat.le_trans (forget_vs_le d j) (by have := HD.out.2.1 j; omega)))
    have HF2 := Lib.hid f2
    clear f2 hb2 hmk hz8
    cases hst : d.forget.settles 1 (List.replicate z (nought 128)) with
    | false =>
      rw [hst] at HS
      have q2 := settle_dead hst 0 [hdS 1 1]
      have HE := Lib.hid (show d.format z = d.forget.settle 1 (List.replicate z (nought 128)) ∧ r = 10 from ⟨by unfold DS.format; rw [q2.2], by rw [HR.out]; unfold DS.formats; rw [q2.1]; rfl⟩)
      refine HS.out.mono ?_
      rintro e w3 ⟨rfl, ⟨P3, hp1, hp2⟩, hf3⟩
      have H3 := Lib.hid (And.intro hp1 (And.intro hp2 hf3))
      clear hp1 hp2 hf3 HS hst q2
      go_wp2_with fail
      go_ret
      rw [HE.out.1, HE.out.2]
      refine ⟨rfl, ⟨P3, H3.out.1, fun b hb => ?_⟩, (H1.out.2.2.trans HF2.out (fun _ _ q => q.elim)).trans H3.out.2.2 (fun b hb q => (H1.out.2.1 b q).resolve_right (by omega))⟩
      rcases H3.out.2.1 b hb with q | q
      · exact H1.out.2.1 b q
      · exact .inr (Nat.le_trans (H1.out.2.2.trans HF2.out (fun _ _ q => q.elim)).size q)
    | true =>
      rw [hst] at HS
      refine HS.out.mono ?_
      rintro e w3 ⟨rfl, ⟨P3, hp1, hp2⟩, hf3⟩
      have H3 := Lib.hid (And.intro hp1 (And.intro hp2 hf3))
      have HF3 : Hid (Fr P w w3 ∧ ∀ b, P3 b → P b ∨ w.heap.size ≤ b) := Lib.hid ⟨(H1.out.2.2.trans HF2.out (fun _ _ q => q.elim)).trans H3.out.2.2 (fun b hb q => (H1.out.2.1 b q).resolve_right (by omega)), fun b hb => by
        rcases H3.out.2.1 b hb with q | q
        · exact H1.out.2.1 b q
        · exact .inr (Nat.le_trans (H1.out.2.2.trans HF2.out (fun _ _ q => q.elim)).size q)⟩
      clear hp1 hp2 hf3 HS hst
      go_wp2_with fail
      refine (sector_11 _).mono ?_
      rintro e w5 ⟨rfl, f5⟩
      have f6 := f5.alloc (.cells (cellsB (hdS 1 1)).toArray 45)
      have hb6 := Blk.new w5 45 (cellsB (hdS 1 1)).toArray
      have HS := Lib.hid (settle_any (H3.out.1.new f6) (i := 0) (SecV.one hb6 (hdS_len _ _)) (fun b hb q => by
        injection hb with hb
        have h1 := (H3.out.1.2 b q).2
        have h2 := f5.size
        simp at hb
        omega) (by rw [settle_len, forget_len]; have := HD.out.2.2.1; simp; omega) (by rw [settle_len, forget_len]; exact HD.out.1) (fun j => Nat.le_trans (settle_vs_le _ _ _ j) (by have := forget_vs_le d j; have := HD.out.2.1 j; omega)))
      have HF6 := Lib.hid f6
      clear f5 f6 hb6
      rw [show (if (d.forget.settle 1 (List.replicate z (nought 128))).settles 0 [hdS 1 1] = true then (0 : Int) else 10) = r from HR.out.symm] at HS
      go_wp2_with (refine wpList_build_sec rfl _ rfl (hdS_len 1 1) rfl ?_)
      refine HS.out.mono ?_
      rintro e w7 ⟨rfl, ⟨P', h7, h8⟩, f7⟩
      have H7 := Lib.hid (And.intro h7 (And.intro h8 f7))
      clear h7 h8 f7 HS
      go_wp2_with fail
      go_ret
      have f8 := HF3.out.1.trans HF6.out (fun _ _ q => q.elim)
      refine ⟨rfl, ⟨P', H7.out.1, fun b hb => ?_⟩, f8.trans H7.out.2.2 (fun b hb q => (HF3.out.2 b q).resolve_right (by omega))⟩
      rcases H7.out.2.1 b hb with q | q
      · exact HF3.out.2 b q
      · exact .inr (Nat.le_trans f8.size q)
end
end Go.Proofs.YtjdbgojnpnlblaaGreat
