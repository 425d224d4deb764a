/- wal: Need; sectors laid one behind the other, and flushed. -/
import Derived.Test.YtjdbgojnpnlblaaGreatVne
namespace Go.Proofs.YtjdbgojnpnlblaaGreat
open Go.RowKit

def wneedN (n : Int) : Nat := if n < 1 ∨ 60 < n then 0 else needN (n * 516)
theorem wneed_any (w : World) (n : Int) : Calls Tryz.prog 33 #[.int .i64 n] w fun e w' => e = .returned (.int .i64 (wneedN n : Nat)) ∧ w = w' := by
  by_cases h0 : n < 1
  · have : wneedN n = 0 := by simp [wneedN, h0]
    rw [this]
    go_enter Tryz.func33, Tryz.ntmps33
    go_wp2_with fail
    go_ret
    exact ⟨rfl, rfl⟩
  by_cases h1 : 60 < n
  · have : wneedN n = 0 := by simp [wneedN, h1]
    rw [this]
    have h2 : n > 60 := h1
    go_enter Tryz.func33, Tryz.ntmps33
    go_wp2_with fail
    go_ret
    exact ⟨rfl, rfl⟩
  have hn : wneedN n = needN (n * 516) := by unfold wneedN; rw [if_neg (by omega)]
  have e1 : IntKind.i64.wrap (n * 516) = n * 516 := by simp [IntKind.wrap, IntKind.signed, IntKind.bits]; omega
  have h2 : ¬ n > 60 := by omega
  have HM := Lib.hid (need_any w (n * 516))
  rw [hn]
  generalize needN (n * 516) = m at *
  clear hn
  go_enter Tryz.func33, Tryz.ntmps33
  go_wp2_with fail
  (with_reducible refine HM.out.mono ?_)
  rintro e w1 ⟨rfl, rfl⟩
  go_wp2_with fail
  go_ret
  exact ⟨rfl, rfl⟩

/-- Sectors written one behind the other. -/
def DS.lay (d : DS) (i : Nat) : List (List UInt8) → DS
  | [] => d
  | s :: ss => (d.write i s).lay (i + 1) ss
theorem lay_snoc (d : DS) (i : Nat) (ss : List (List UInt8)) (s : List UInt8) : d.lay i (ss ++ [s]) = (d.lay i ss).write (i + ss.length) s := by
  induction ss generalizing d i with
  | nil => rfl
  | cons t ts ih =>
    show (d.write i t).lay (i + 1) (ts ++ [s]) = _
    rw [ih]
    show _ = DS.write _ (i + (ts.length + 1)) s
    rw [show i + (ts.length + 1) = i + 1 + ts.length by omega]
    rfl
theorem lay_len (d : DS) (i : Nat) (ss : List (List UInt8)) : (d.lay i ss).rd.length = d.rd.length := by
  induction ss generalizing d i with
  | nil => rfl
  | cons t ts ih => exact (ih _ _).trans write_len
theorem write_vs {d : DS} {i j : Nat} {s : List UInt8} (h : j ≠ i) : (d.write i s).vs j = d.vs j := by
  unfold DS.write
  split <;> simp [DS.put, DS.step, h]
theorem lay_vs (d : DS) (i : Nat) (ss : List (List UInt8)) {j : Nat} (h : i + ss.length ≤ j) : (d.lay i ss).vs j = d.vs j := by
  induction ss generalizing d i with
  | nil => rfl
  | cons t ts ih =>
    simp at h
    exact (ih _ _ (by omega)).trans (write_vs (by omega))
/-- What is dead stays dead. -/
theorem alive_step {d : DS} (h : d.alive = false) : d.step.alive = false ∧ d.step.step = d.step := by
  have hd : deadS d.fu d.lf d.dd = true := by simpa [DS.alive] using h
  have hd0 : d.step.dd = true := hd
  have h1 : deadS d.step.fu d.step.lf d.step.dd = true := by rw [hd0]; simp [deadS]
  refine ⟨by simp [DS.alive, h1], ?_⟩
  have h2 : d.step.dd = true := hd0
  have h3 : d.step.step = { d.step with lf := leftS d.step.fu d.step.lf d.step.dd, dd := deadS d.step.fu d.step.lf d.step.dd } := rfl
  rw [h3, h1, ← h2]
  have h4 : leftS d.step.fu d.step.lf d.step.dd = d.step.lf := by simp [leftS, h1]
  rw [h4]
theorem lay_dead {d : DS} (h : d.alive = false) (i : Nat) (ss : List (List UInt8)) : (d.lay i ss).alive = false ∧ (d.lay i ss).step = d.step := by
  induction ss generalizing d i with
  | nil => exact ⟨h, rfl⟩
  | cons t ts ih =>
    have e : d.write i t = d.step := by unfold DS.write; rw [if_neg (by rw [h]; decide)]
    have h1 := alive_step h
    have := ih (d := d.step) h1.1 (i + 1)
    rw [h1.2] at this
    show ((d.write i t).lay (i + 1) ts).alive = false ∧ ((d.write i t).lay (i + 1) ts).step = _
    rw [e]
    exact this
theorem lay_app (d : DS) (i : Nat) (ss ts : List (List UInt8)) : d.lay i (ss ++ ts) = (d.lay i ss).lay (i + ss.length) ts := by
  induction ss generalizing d i with
  | nil => rfl
  | cons t rs ih =>
    show (d.write i t).lay (i + 1) (rs ++ ts) = _
    rw [ih]
    show _ = ((d.write i t).lay (i + 1) rs).lay (i + (rs.length + 1)) ts
    rw [show i + (rs.length + 1) = i + 1 + rs.length by omega]
theorem lay_cut {d : DS} {i k : Nat} {ss : List (List UInt8)} (h : (d.lay i (ss.take k)).alive = false) : (d.lay i ss).alive = false ∧ (d.lay i ss).flushed = (d.lay i (ss.take k)).step := by
  have e : d.lay i ss = (d.lay i (ss.take k)).lay (i + (ss.take k).length) (ss.drop k) := by rw [← lay_app, List.take_append_drop]
  have h1 := lay_dead h (i + (ss.take k).length) (ss.drop k)
  rw [← e] at h1
  refine ⟨h1.1, ?_⟩
  unfold DS.flushed
  rw [if_neg (by rw [h1.1]; decide)]
  exact h1.2
/-- Sectors laid, and flushed. -/
def DS.settle (d : DS) (i : Nat) (ss : List (List UInt8)) : DS := (d.lay i ss).flushed
def DS.settles (d : DS) (i : Nat) (ss : List (List UInt8)) : Bool := (d.lay i ss).alive
theorem settle_len (d : DS) (i : Nat) (ss : List (List UInt8)) : (d.settle i ss).rd.length = d.rd.length := flushed_len.trans (lay_len d i ss)

section
variable {w : World} {B g : Nat} {P : Nat → Prop} {d : DS} {v : Value} {ss : List (List UInt8)}
set_option maxRecDepth 100000 in
set_option maxHeartbeats 2000000 in
theorem settle_any (h : DAt w B P g d) {i : Nat} (hv : SecV w v ss) (hvP : ∀ b, v.ownBlock = some b → ¬ P b) (hi : i + ss.length ≤ d.rd.length) (hlen : d.rd.length ≤ 8192) (hN : ∀ j, (d.vs j).length ≤ 10000) :
    Calls Tryz.prog 48 #[.pointer (some ⟨g, 0, none⟩), .int .i64 i, v] w fun e w' => e = .returned (.int .i64 (if d.settles i ss then 0 else 10)) ∧ (∃ P', DAt w' B P' g (d.settle i ss) ∧ ∀ b, P' b → P b ∨ w.heap.size ≤ b) ∧ Fr P w w' := by
  have hall := hv.all128
  obtain ⟨A, cap, rfl, hc1, hc2, hs⟩ := hv
  obtain ⟨n, hn⟩ : ∃ n, n = ss.length := ⟨_, rfl⟩
  rw [← hn] at hi hc1 hs ⊢
  obtain ⟨z, hz⟩ : ∃ z : Int, z = if d.settles i ss = true then 0 else 10 := ⟨_, rfl⟩
  rw [← hz]
  have HZ := Lib.hid hz
  clear hz
  have HH := Lib.hid (And.intro hn (And.intro hs (And.intro hvP (And.intro hall (And.intro hN (And.intro hi hlen))))))
  have HD := Lib.hid h
  have hn9 : n ≤ 8192 := by omega
  have hin : i + n ≤ 8192 := by omega
  clear hn hs hvP hi hlen hN h hc1 hc2 hall
  go_enter Tryz.func48, Tryz.ntmps48
  go_wp2_with fail
  go_loopw [12] (fun q wr => ∃ k : Nat, q = .int .i64 k ∧ k ≤ n ∧ Hid (∃ P', DAt wr B P' g (d.lay i (ss.take k)) ∧ ∀ b, P' b → P b ∨ w.heap.size ≤ b) ∧ Hid (Fr P w wr)) (fun q _ => n - (intOf q).toNat)
  case atStart => exact ⟨0, rfl, Nat.zero_le _, Lib.hid ⟨P, HD.out, fun b hb => .inl hb⟩, Lib.hid (Fr.refl _ _)⟩
  case round =>
    obtain ⟨k, rfl, hk, HP, HF⟩ := hrel
    by_cases hlt : k < n
    · obtain ⟨P', hP'⟩ := HP.out
      obtain ⟨s, hs⟩ : ∃ s, ss[k]? = some s := ⟨_, List.getElem?_eq_getElem (by have := HH.out.1; omega)⟩
      obtain ⟨b, off, rfl, hsec⟩ := HH.out.2.1 (by omega)
      have hnb : ¬ P b := HH.out.2.2.1 b rfl
      have hr := (hsec k s hs).2
      have hb9 : b < w.heap.size := by
        have hl := (hsec k s hs).1
        obtain ⟨c, hc⟩ : ∃ c, (cellsB s)[0]? = some c := ⟨_, List.getElem?_eq_getElem (by rw [cellsB_len]; omega)⟩
        exact World.block_lt_of_cell? w _ (hr 0 c hc)
      have hr' : wr.rangeAt b (off + k * 128) (cellsB s) := fun j c hj => (HF.out.cell (World.block_lt_of_cell? w _ (hr j c hj)) hnb).trans (hr j c hj)
      have HX := Lib.hid (And.intro hs (And.intro (hsec k s hs).1 (And.intro hr' hb9)))
      have HPP := Lib.hid hP'
      clear hs hsec hnb hr hr' hb9 hP' HP
      have hi0 : (0 : Int) ≤ (k : Int) := by omega
      have hi1 : (k : Int) < (n : Int) := by omega
      have hwrap : IntKind.i64.wrap ((i : Int) + (k : Int)) = ((i + k : Nat) : Int) := by simp [IntKind.wrap, IntKind.signed, IntKind.bits]; omega
      obtain ⟨W2, hW2, hb2, hf2, hth⟩ : ∃ W2, W2 = (wr.alloc (.cells (cellsB (nought 128)).toArray 45)).setCells wr.heap.size 0 (cellsB s) ∧ Blk W2 wr.heap.size 45 (cellsB s).toArray ∧ Fr (fun _ => False) wr W2 ∧ (wr.alloc (.cells (cellsB (nought 128)).toArray 45)).there wr.heap.size 0 (cellsB s).toArray.size := by
        have hbn := Blk.new wr 45 (cellsB (nought 128)).toArray
        refine ⟨_, rfl, ?_, Fr.setCells (.inr (Nat.le_refl _)) ((Fr.refl _ wr).alloc _), hbn.there (by simp [cellsB_len, nought_len, HX.out.2.1])⟩
        have q := hbn.over (o := 0) (m := s) (by rw [nought_len, HX.out.2.1]; omega)
        rwa [patch_all (by rw [nought_len, HX.out.2.1])] at q
      have hr2 : W2.rangeAt wr.heap.size 0 (cellsB s) := sec_range HX.out.2.1 hb2
      have HB2 := Lib.hid (And.intro hb2 (And.intro hf2 hr2))
      have HTH := Lib.hid hth
      clear hb2 hf2 hr2 hth
      go_wp2_with (first
        | (refine wpList_load_mid rfl 45 _ rfl b (off + k * 128) rfl (cellsB s) _ HX.out.2.2.1 Tryz.underlying45 rfl (by rw [infoSector, cellsB_len, HX.out.2.1]) ?_)
        | (refine wpList_zero rfl 45 rfl zeroSector ?_)
        | (refine wpList_store_mid rfl 45 _ _ rfl wr.heap.size 0 (cellsB s).toArray rfl rfl HTH.out (by rw [infoSector]; simp [cellsB_len, HX.out.2.1]) (all_oneCell_toArray (cellsB_one _)) ?_; rw [← hW2]; clear hW2)
        | (refine wpList_load_mid rfl 45 _ rfl wr.heap.size 0 rfl (cellsB s) _ HB2.out.2.2 Tryz.underlying45 rfl (by rw [infoSector, cellsB_len, HX.out.2.1]) ?_))
      have htl : (ss.take k).length = k := by rw [List.length_take, ← HH.out.1]; omega
      have hts : ss.take (k + 1) = ss.take k ++ [s] := by rw [List.take_add_one, HX.out.1]; rfl
      have hnx : (d.lay i (ss.take k)).write (i + k) s = d.lay i (ss.take (k + 1)) := by rw [hts, lay_snoc, htl]
      have hvs : ((d.lay i (ss.take k)).vs (i + k)).length ≤ 10000 := by rw [lay_vs _ _ _ (by rw [htl]; omega)]; exact HH.out.2.2.2.2.1 _
      have HW := Lib.hid (awrite_any (HPP.out.1.new HB2.out.2.1) (i := i + k) (s := s) (by rw [lay_len]; have := HH.out.2.2.2.2.2; omega) HX.out.2.1 hvs)
      rw [Int.natCast_add, hnx] at HW
      clear hvs hnx hts htl
      cases hal : (d.lay i (ss.take k)).alive with
      | true =>
        rw [hal] at HW
        refine HW.out.mono ?_
        rintro e w3 ⟨rfl, ⟨P3, hP3, hP4⟩, hf3⟩
        have H3 : Hid (∃ P', DAt w3 B P' g (d.lay i (ss.take (k + 1))) ∧ ∀ b, P' b → P b ∨ w.heap.size ≤ b) := Lib.hid ⟨P3, hP3, fun c hc => by
          rcases hP4 c hc with q | q
          · exact HPP.out.2 c q
          · exact .inr (by have := HF.out.size; have := HB2.out.2.1.size; omega)⟩
        have F3 : Hid (Fr P w w3) := Lib.hid ((HF.out.trans HB2.out.2.1 (fun _ _ q => q.elim)).trans hf3 (fun c hc q => (HPP.out.2 c q).resolve_right (by omega)))
        clear HW hP3 hP4 hf3 hal
        go_wp2_with fail
        exact ⟨⟨k + 1, by go_num, hlt, H3, F3⟩, by simp [intOf]; omega⟩
      | false =>
        rw [hal] at HW
        have hcut := lay_cut hal
        have hst : d.lay i (ss.take (k + 1)) = (d.lay i (ss.take k)).step := by
          have q := lay_cut (d := d) (i := i) (k := k) (ss := ss.take (k + 1)) (by rw [List.take_take, Nat.min_eq_left (by omega)]; exact hal)
          have q2 := lay_dead hal
          have hts : ss.take (k + 1) = ss.take k ++ [s] := by rw [List.take_add_one, HX.out.1]; rfl
          rw [hts, lay_snoc]
          unfold DS.write
          rw [if_neg (by rw [hal]; decide)]
        rw [hst, ← hcut.2] at HW
        have hs1 : d.settles i ss = false := hcut.1
        refine HW.out.mono ?_
        rintro e w3 ⟨rfl, ⟨P3, hP3, hP4⟩, hf3⟩
        have H3 : Hid (∃ P', DAt w3 B P' g (d.settle i ss) ∧ ∀ b, P' b → P b ∨ w.heap.size ≤ b) := Lib.hid ⟨P3, hP3, fun c hc => by
          rcases hP4 c hc with q | q
          · exact HPP.out.2 c q
          · exact .inr (by have := HF.out.size; have := HB2.out.2.1.size; omega)⟩
        have F3 : Hid (Fr P w w3) := Lib.hid ((HF.out.trans HB2.out.2.1 (fun _ _ q => q.elim)).trans hf3 (fun c hc q => (HPP.out.2 c q).resolve_right (by omega)))
        clear HW hP3 hP4 hf3 hal hst hcut
        go_wp2_with fail
        go_ret
        exact ⟨by rw [HZ.out, hs1]; rfl, H3.out, F3.out⟩
    · obtain rfl : k = n := by omega
      obtain ⟨P', hP'⟩ := HP.out
      rw [List.take_of_length_le (by rw [← HH.out.1]; omega)] at hP'
      have HW := Lib.hid (aflush_any hP'.1)
      rw [show (if (d.lay i ss).alive = true then (0 : Int) else 10) = z from HZ.out.symm] at HW
      have HPP := Lib.hid hP'.2
      clear hlt hk hP' HP
      go_wp2_with fail
      refine HW.out.mono ?_
      rintro e w3 ⟨rfl, h3, hf3⟩
      have F3 : Hid (Fr P w w3) := Lib.hid (HF.out.trans hf3 (fun c hc q => (HPP.out c q).resolve_right (by omega)))
      have H3 := Lib.hid h3
      clear h3 hf3 HW
      go_wp2_with fail
      go_ret
      exact ⟨rfl, ⟨P', H3.out, HPP.out⟩, F3.out⟩
end
end Go.Proofs.YtjdbgojnpnlblaaGreat
