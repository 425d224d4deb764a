/- couponlaw03.DiskFuses. -/
import Derived.Test.YtcpbhpddemflcaaBot
namespace Go.Proofs.Ytcpbhpddemflcaa
open Go.RowKit Go.Maps

/-- The one with the fuse, behind k acts of which c were done; the other one, which was asked for these c alone. -/
structure Fuses (d o : DS) (steps c : Nat) : Prop where
  rd : d.rd = o.rd
  vs : d.vs = o.vs
  ofu : o.fu = false
  odd : o.dd = false
  dfu : d.fu = true
  dlf : d.lf = ((steps - c : Nat) : Int)
  ddd : d.dd = true → c = steps
  len : d.rd.length = 4
section
variable {d o : DS} {steps c : Nat}
theorem Fuses.alive (h : Fuses d o steps c) (hc : c ≤ steps) : d.alive = decide (c < steps) := by
  unfold DS.alive deadS
  rw [h.dfu, h.dlf]
  cases hd : d.dd with
  | true =>
    have := h.ddd hd
    simp; omega
  | false =>
    simp only [Bool.false_or, Bool.true_and]
    by_cases q : c < steps
    · have : ¬ (((steps - c : Nat) : Int) = 0) := by omega
      simp [q]; omega
    · have : steps - c = 0 := by omega
      simp [q, this]
theorem Fuses.oalive (h : Fuses d o steps c) : o.alive = true := by simp [DS.alive, deadS, h.ofu, h.odd]
theorem Fuses.like (h : Fuses d o steps c) : d.Like o := ⟨h.rd, fun i _ => by unfold DS.last; rw [h.rd, h.vs]⟩
theorem Fuses.refused (h : Fuses d o steps c) (hc : c = steps) : Fuses d.step o steps c ∧ d.step.dd = true := by
  have hd : deadS d.fu d.lf d.dd = true := by
    have := h.alive (by omega)
    unfold DS.alive at this
    have e : decide (c < steps) = false := by simp; omega
    rw [e] at this
    simpa using this
  refine ⟨⟨h.rd, h.vs, h.ofu, h.odd, h.dfu, ?_, fun _ => hc, h.len⟩, hd⟩
  show leftS d.fu d.lf d.dd = _
  unfold leftS
  rw [hd]
  simpa using h.dlf
theorem Fuses.step (h : Fuses d o steps c) (hc : c < steps) : Fuses d.step o.step steps (c + 1) := by
  have hd : deadS d.fu d.lf d.dd = false := by
    have := h.alive (by omega)
    unfold DS.alive at this
    simpa [hc] using this
  have ho : deadS o.fu o.lf o.dd = false := by
    have := h.oalive
    unfold DS.alive at this
    simpa using this
  refine ⟨h.rd, h.vs, h.ofu, ho, h.dfu, ?_, fun q => ?_, h.len⟩
  · show leftS d.fu d.lf d.dd = _
    unfold leftS
    rw [hd, h.dfu, h.dlf]
    simp
    omega
  · have q' : deadS d.fu d.lf d.dd = true := q
    rw [hd] at q'
    cases q'
theorem Fuses.write (h : Fuses d o steps c) (hc : c < steps) (i : Nat) (s : List UInt8) : Fuses (d.write i s) (o.write i s) steps (c + 1) := by
  have h1 := h.step hc
  unfold DS.write
  rw [h.alive (by omega), h.oalive, decide_eq_true hc, if_pos rfl, if_pos rfl, h.vs, h.rd]
  exact ⟨congrArg (fun l => l.set i s) h1.rd, by simp only [DS.put]; rw [h1.vs], h1.ofu, h1.odd, h1.dfu, h1.dlf, h1.ddd, by simp only [DS.put]; rw [List.length_set]; exact h1.len⟩
theorem Fuses.flushed (h : Fuses d o steps c) (hc : c < steps) : Fuses d.flushed o.flushed steps (c + 1) := by
  have h1 := h.step hc
  unfold DS.flushed
  rw [h.alive (by omega), h.oalive, decide_eq_true hc, if_pos rfl, if_pos rfl]
  exact ⟨h1.rd, rfl, h1.ofu, h1.odd, h1.dfu, h1.dlf, h1.ddd, h1.len⟩
theorem Fuses.write_no (h : Fuses d o steps c) (hc : c = steps) (i : Nat) (s : List UInt8) : Fuses (d.write i s) o steps c ∧ (d.write i s).dd = true := by
  have h1 := h.refused hc
  unfold DS.write
  rw [h.alive (by omega)]
  have e : decide (c < steps) = false := by simp; omega
  rw [e]
  exact h1
theorem Fuses.flushed_no (h : Fuses d o steps c) (hc : c = steps) : Fuses d.flushed o steps c ∧ d.flushed.dd = true := by
  have h1 := h.refused hc
  unfold DS.flushed
  rw [h.alive (by omega)]
  have e : decide (c < steps) = false := by simp; omega
  rw [e]
  exact h1
theorem fuses_new (steps : Nat) : Fuses { newD 4 with fu := true, lf := (steps : Int) } (newD 4) steps 0 := ⟨rfl, rfl, rfl, rfl, rfl, by simp, fun q => (by cases q), by simp [newD]⟩
end
/-- Without a fuse; dead. -/
def DS.free (d : DS) : Prop := d.fu = false ∧ d.dd = false
theorem free_alive {d : DS} (h : d.free) : d.alive = true := by simp [DS.alive, deadS, h.1, h.2]
theorem free_step {d : DS} (h : d.free) : d.step.free := ⟨h.1, by simp [DS.step, deadS, h.1, h.2]⟩
theorem free_write {d : DS} (h : d.free) (i : Nat) (s : List UInt8) : (d.write i s).free := by
  unfold DS.write
  rw [free_alive h]
  exact free_step h
theorem free_flushed {d : DS} (h : d.free) : d.flushed.free := by
  unfold DS.flushed
  rw [free_alive h]
  exact free_step h
theorem crash_free {d : DS} (p : List Int) : (d.crash p).free := ⟨rfl, rfl⟩
theorem dead_alive {d : DS} (h : d.dd = true) : d.alive = false := by simp [DS.alive, deadS, h]
theorem dead_write {d : DS} (h : d.dd = true) (i : Nat) (s : List UInt8) : (d.write i s).dd = true := by
  unfold DS.write
  rw [dead_alive h]
  simp [DS.step, deadS, h]
theorem most_new (n N : Nat) : (newD n).most N := fun i => by simp [newD]

set_option maxRecDepth 100000 in
set_option maxHeartbeats 4000000 in
theorem fuses_any {W : World} {v : Value} {xs : List ActD} (h : ActV W v xs) {steps again : Int} (hs0 : 0 ≤ steps) (hs1 : steps ≤ 60) (ha0 : 0 ≤ again) (ha1 : again ≤ 9223372036854775807) (hfew : fewB xs 60 = true) :
    Calls Try.prog 6 #[.int .i64 steps, v, .int .i64 again] W fun e w' => e = .returned (.bool true) ∧ Fr (fun _ => False) W w' := by
  have F1 := few_any h 60
  obtain ⟨q, hq⟩ : ∃ q, q = nought 128 := ⟨_, rfl⟩
  have HQ : Hid (q = nought 128 ∧ q.length = 128 ∧ (Value.agg Try.zeroCells34 = av q)) := Lib.hid ⟨hq, hq ▸ nought_len 128, hq ▸ zero_cells2⟩
  clear hq
  rw [hfew] at F1
  obtain ⟨st, rfl⟩ : ∃ st : Nat, steps = st := ⟨steps.toNat, by omega⟩
  obtain ⟨B, hB⟩ : ∃ B, B = W.heap.size := ⟨_, rfl⟩
  have hB0 := Lib.hid hB
  have hst : st ≤ 60 := by omega
  have hlen : xs.length ≤ 60 := by
    unfold fewB at hfew
    simp at hfew
    exact hfew.2
  have hg1 : ¬ ((st : Int) < 0) := by omega
  have hg2 : ¬ ((st : Int) > 60) := by omega
  have hg2' : ¬ (60 < (st : Int)) := by omega
  have hg3 : ¬ (again < 0) := by omega
  have HX := Lib.hid (And.intro h hlen)
  clear hfew h hs0 hs1 hlen
  go_enter Try.func6, Try.ntmps6
  go_wp2_with fail
  refine F1.mono ?_
  rintro e w1 ⟨rfl, f1⟩
  clear F1
  go_wp2_with fail
  refine (begin_any w1 (n := 4) (by omega) (by omega)).mono ?_
  rintro e w2 ⟨g, gr, rfl, ⟨P, rv, rvs, hd, _, _⟩, f2⟩
  go_wp2_with fail
  refine (begin_any w2 (n := 4) (by omega) (by omega)).mono ?_
  rintro e w3 ⟨g', gr', rfl, ⟨Q, rv', rvs', ho, _, _⟩, f3⟩
  have f13 := (f1.trans f2 (fun _ _ q => q)).trans f3 (fun _ _ q => q)
  have hbo : Both w3 B g g' (newD 4) (newD 4) := both_of ⟨(hd.new f3).1, fun b hb => ⟨by have := (hd.2 b hb).1; have := f1.size; omega, ((hd.new f3).2 b hb).2⟩⟩ ho (by have := f1.size; have := f2.size; omega) (fun b hb => (hd.2 b hb).2)
  have HF3 := Lib.hid f13
  clear hd ho f1 f2 f3 f13
  have HFu := both_fuse hbo (k := (st : Int)) (by omega) (by omega)
  clear hbo
  go_wp2_with fail
  refine HFu.mono ?_
  rintro e w4 ⟨rfl, hbo, f4⟩
  have HB4 := Lib.hid hbo
  have HF4 := Lib.hid (HF3.out.on f4 hB)
  clear hbo f4 HF3 HFu
  obtain ⟨A, cap, hv, hvl, hacts⟩ := HX.out.1
  subst hv
  obtain ⟨n, hn⟩ : ∃ n, n = xs.length := ⟨_, rfl⟩
  rw [← hn] at hvl hacts ⊢
  have hn60 : n ≤ 60 := by have := HX.out.2; omega
  have HN := Lib.hid (And.intro hn hacts)
  clear hn hacts hvl hB
  -- the loop
  go_wp2_with fail
  go_loopw [13, 14] (fun dn i wr => ∃ (c k : Nat), dn = .int .i64 c ∧ i = .int .i64 k ∧ k ≤ n ∧ c ≤ st ∧ Hid (∃ d o, Both wr B g g' d o ∧ Fuses d o st c ∧ d.most (k + 1) ∧ o.most (k + 1)) ∧ Hid (Fr (fun _ => False) W wr)) (fun _ i _ => n - (intOf i).toNat)
  case atStart => exact ⟨0, 0, rfl, rfl, Nat.zero_le _, Nat.zero_le _, Lib.hid ⟨_, _, HB4.out, fuses_new st, most_new 4 _, most_new 4 _⟩, HF4⟩
  case round =>
    obtain ⟨c, k, rfl, rfl, hk, hc, HE, HF⟩ := hrel
    clear HB4 HF4
    obtain ⟨d, o, hb, hfu, hmd, hmo⟩ := HE.out
    clear HE
    by_cases hlt : k < n
    · obtain ⟨b, off, rfl, hs0⟩ := HN.out.2 (by omega)
      obtain ⟨x, hx⟩ : ∃ x, xs[k]? = some x := ⟨_, List.getElem?_eq_getElem (by have := HN.out.1; omega)⟩
      have HX0 := Lib.hid hx
      have ha := (hs0 k x hx).new HF.out
      obtain ⟨kd, hkd⟩ : ∃ kd, kd = x.k := ⟨_, rfl⟩
      obtain ⟨at_, hat⟩ : ∃ a, a = x.a := ⟨_, rfl⟩
      obtain ⟨s, hs⟩ : ∃ s, s = x.s := ⟨_, rfl⟩
      have c0 := ha.c0
      have c1 := ha.c1
      rw [← hkd] at c0
      rw [← hat] at c1
      have HRs : Hid (wr.rangeAt b (off + k * 132 + 3) (cellsB s)) := Lib.hid (hs ▸ ha.rs)
      have HS : Hid (s.length = 128) := Lib.hid (hs ▸ ha.in_.sl)
      have HXe := Lib.hid (And.intro hkd (And.intro hat hs))
      obtain ⟨j, hj4, hj⟩ : ∃ j : Nat, j < 4 ∧ (at_.tmod 4 + 4).tmod 4 = (j : Int) := by
        have h1 := Int.tmod_lt_of_pos at_ (b := 4) (by omega)
        have h2 := Int.lt_tmod_of_pos at_ (b := 4) (by omega)
        have h3 := Int.emod_nonneg (at_.tmod 4 + 4) (b := 4) (by omega)
        have h4 := Int.emod_lt_of_pos (at_.tmod 4 + 4) (b := 4) (by omega)
        refine ⟨((at_.tmod 4 + 4) % 4).toNat, by omega, ?_⟩
        rw [Int.tmod_eq_emod_of_nonneg (by omega)]
        omega
      have hm0 : -4 < at_.tmod 4 := Int.lt_tmod_of_pos at_ (b := 4) (by omega)
      have hm1 : at_.tmod 4 < 4 := Int.tmod_lt_of_pos at_ (b := 4) (by omega)
      have hi0 : (0 : Int) ≤ (k : Int) := by omega
      have hi1 : (k : Int) < (n : Int) := by omega
      have hal := hfu.alive hc
      clear hx hkd hat hs ha
      by_cases hk2 : kd = 2
      · subst hk2
        by_cases hclt : c < st
        · rw [decide_eq_true hclt] at hal
          have HC := both_flush hb (r := 0) (by rw [hal]; rfl)
          have hfu' := hfu.flushed hclt
          have HMo := Lib.hid (And.intro (fun i => Nat.le_succ_of_le (flushed_most hmd i)) (fun i => Nat.le_succ_of_le (flushed_most hmo i)))
          have hol := hfu.oalive
          have hln := hfu.len
          have hro := hfu.rd
          have HMO := Lib.hid hmo
          clear hb hmd hmo hal hfu
          go_wp2_with fail
          refine HC.mono ?_
          rintro e w5 ⟨rfl, hb5, f5⟩
          have HF5 := Lib.hid (HF.out.on f5 hB0.out)
          have HB5 := Lib.hid hb5
          have ha5 := (hs0 k x HX0.out).new HF5.out
          have c05 := ha5.c0
          rw [← HXe.out.1] at c05
          have HC5 := both_flush hb5.symm (r := 0) (by rw [hol]; rfl)
          clear f5 hb5 HC ha5
          go_wp2_with fail
          refine HC5.mono ?_
          rintro e w6 ⟨rfl, hb6, f6⟩
          have HB6 := Lib.hid hb6.symm
          have HF6 := Lib.hid (HF5.out.on f6 hB0.out)
          clear HC5 f6 hb6
          go_wp2_with fail
          exact ⟨⟨c + 1, k + 1, by go_num, by go_num, by omega, by omega, Lib.hid ⟨_, _, HB6.out, hfu', HMo.out.1, HMo.out.2⟩, HF6⟩, by simp [intOf]; omega⟩
        · rw [decide_eq_false hclt] at hal
          have HC := both_flush hb (r := 10) (by rw [hal]; rfl)
          have hfu' := hfu.flushed_no (by omega)
          have HMo := Lib.hid (And.intro (fun i => Nat.le_succ_of_le (flushed_most hmd i)) (fun i => Nat.le_succ_of_le (hmo i) : o.most (k + 1 + 1)))
          have hol := hfu.oalive
          have hln := hfu.len
          have hro := hfu.rd
          have HMO := Lib.hid hmo
          clear hb hmd hmo hal hfu
          go_wp2_with fail
          refine HC.mono ?_
          rintro e w5 ⟨rfl, hb5, f5⟩
          have HF5 := Lib.hid (HF.out.on f5 hB0.out)
          have HB5 := Lib.hid hb5
          have HDd := both_dead hb5
          rw [hfu'.2] at HDd
          clear f5 hb5 HC
          go_wp2_with fail
          refine HDd.mono ?_
          rintro e w6 ⟨rfl, rfl⟩
          clear HDd
          go_wp2_with fail
          exact ⟨⟨c, k + 1, rfl, by go_num, by omega, hc, Lib.hid ⟨_, _, HB5.out, hfu'.1, HMo.out.1, HMo.out.2⟩, HF5⟩, by simp [intOf]; omega⟩
      · have hk2' : (kd == 2) = false := by simp [hk2]
        by_cases hclt : c < st
        · rw [decide_eq_true hclt] at hal
          have HC := both_write hb (z := (j : Int)) (i := j) rfl (by rw [hfu.len]; exact hj4) HS.out (by have := hmd j; omega) (r := 0) (by rw [hal]; rfl)
          have hfu' := hfu.write hclt j s
          have HMo := Lib.hid (And.intro (write_most (i := j) (s := s) hmd (by omega)) (write_most (i := j) (s := s) hmo (by omega)))
          have hol := hfu.oalive
          have hln := hfu.len
          have hro := hfu.rd
          have HMO := Lib.hid hmo
          clear hb hmd hmo hal hfu
          go_wp2_with (refine wpList_load_mid rfl 34 _ rfl b (off + k * 132 + 3) rfl (cellsB s) _ HRs.out Try.underlying34 rfl (by rw [infoSector, cellsB_len, HS.out]) ?_)
          refine HC.mono ?_
          rintro e w5 ⟨rfl, hb5, f5⟩
          have HF5 := Lib.hid (HF.out.on f5 hB0.out)
          have HB5 := Lib.hid hb5
          have ha5 := (hs0 k x HX0.out).new HF5.out
          have c05 := ha5.c0
          rw [← HXe.out.1] at c05
          have HRs5 := Lib.hid (HXe.out.2.2 ▸ ha5.rs)
          have HC5 := both_write hb5.symm (z := (j : Int)) (i := j) rfl (by rw [← hro, hln]; exact hj4) HS.out (by have := HMO.out j; omega) (r := 0) (by rw [hol]; rfl)
          clear f5 hb5 HC ha5
          go_wp2_with (refine wpList_load_mid rfl 34 _ rfl b (off + k * 132 + 3) rfl (cellsB s) _ HRs5.out Try.underlying34 rfl (by rw [infoSector, cellsB_len, HS.out]) ?_)
          refine HC5.mono ?_
          rintro e w6 ⟨rfl, hb6, f6⟩
          have HB6 := Lib.hid hb6.symm
          have HF6 := Lib.hid (HF5.out.on f6 hB0.out)
          clear HC5 f6 hb6
          go_wp2_with fail
          exact ⟨⟨c + 1, k + 1, by go_num, by go_num, by omega, by omega, Lib.hid ⟨_, _, HB6.out, hfu', HMo.out.1, HMo.out.2⟩, HF6⟩, by simp [intOf]; omega⟩
        · rw [decide_eq_false hclt] at hal
          have HC := both_write hb (z := (j : Int)) (i := j) rfl (by rw [hfu.len]; exact hj4) HS.out (by have := hmd j; omega) (r := 10) (by rw [hal]; rfl)
          have hfu' := hfu.write_no (by omega) j s
          have HMo := Lib.hid (And.intro (write_most (i := j) (s := s) hmd (by omega)) (fun i => Nat.le_succ_of_le (hmo i) : o.most (k + 1 + 1)))
          have hol := hfu.oalive
          have hln := hfu.len
          have hro := hfu.rd
          have HMO := Lib.hid hmo
          clear hb hmd hmo hal hfu
          go_wp2_with (refine wpList_load_mid rfl 34 _ rfl b (off + k * 132 + 3) rfl (cellsB s) _ HRs.out Try.underlying34 rfl (by rw [infoSector, cellsB_len, HS.out]) ?_)
          refine HC.mono ?_
          rintro e w5 ⟨rfl, hb5, f5⟩
          have HF5 := Lib.hid (HF.out.on f5 hB0.out)
          have HB5 := Lib.hid hb5
          have HDd := both_dead hb5
          rw [hfu'.2] at HDd
          clear f5 hb5 HC
          go_wp2_with fail
          refine HDd.mono ?_
          rintro e w6 ⟨rfl, rfl⟩
          clear HDd
          go_wp2_with fail
          exact ⟨⟨c, k + 1, rfl, by go_num, by omega, hc, Lib.hid ⟨_, _, HB5.out, hfu'.1, HMo.out.1, HMo.out.2⟩, HF5⟩, by simp [intOf]; omega⟩
    · obtain rfl : k = n := by omega
      clear hlt
      have hlk := hfu.like
      have HSm := both_same hb
      have hln := hfu.len
      have HB := Lib.hid hb
      have hmd' : d.most 100 := fun i => Nat.le_trans (hmd i) (by omega)
      clear hb hmd hmo
      go_wp2_with fail
      refine HSm.mono ?_
      rintro e w5 ⟨bb, rfl, hbb, f5⟩
      obtain rfl : bb = true := hbb.2 hlk
      clear hbb hlk HSm
      have hb5 := HB.out.new f5
      have HF5 := Lib.hid (HF.out.trans f5 (fun _ _ q => q))
      clear f5
      have HD5 := both_dead hb5
      cases hdd : d.dd with
      | true =>
        rw [hdd] at HD5
        have HFu := both_fuse hb5 (k := again) (by omega) ha1
        clear hb5
        go_wp2_with fail
        refine HD5.mono ?_
        rintro e w6 ⟨rfl, rfl⟩
        clear HD5
        go_wp2_with fail
        refine HFu.mono ?_
        rintro e w7 ⟨rfl, hb7, f7⟩
        have HF7 := Lib.hid (HF5.out.on f7 hB0.out)
        clear f7 HFu
        obtain ⟨d1, hd1⟩ : ∃ d1 : DS, d1 = { d with fu := true, lf := again } := ⟨_, rfl⟩
        have hdd1 : d1.dd = true := by rw [hd1]; exact hdd
        have hln1 : d1.rd.length = 4 := by rw [hd1]; exact hln
        have hmd1 : d1.most 100 := by rw [hd1]; exact hmd'
        rw [← hd1] at hb7
        clear hd1
        have HD7 := both_dead hb7
        rw [hdd1] at HD7
        go_wp2_with fail
        refine HD7.mono ?_
        rintro e w8 ⟨rfl, rfl⟩
        clear HD7
        have HW7 := both_write hb7 (z := 0) (i := 0) rfl (by omega) HQ.out.2.1 (by have := hmd1 0; omega) (r := 10) (by rw [dead_alive hdd1]; rfl)
        have hdd2 := dead_write hdd1 0 q
        have hln2 : (d1.write 0 q).rd.length = 4 := by rw [write_len]; exact hln1
        have hmd2 : (d1.write 0 q).most 101 := write_most hmd1 (by omega)
        clear hb7
        go_wp2_with fail
        rw [HQ.out.2.2]
        refine HW7.mono ?_
        rintro e w9 ⟨rfl, hb9, f9⟩
        have HF9 := Lib.hid (HF7.out.on f9 hB0.out)
        have HFl9 := both_flush hb9 (r := 10) (by rw [dead_alive hdd2]; rfl)
        clear f9 hb9 HW7
        go_wp2_with fail
        refine HFl9.mono ?_
        rintro e w10 ⟨rfl, hb10, f10⟩
        have HF10 := Lib.hid (HF9.out.on f10 hB0.out)
        have hln3 : (d1.write 0 q).flushed.rd.length = 4 := by rw [flushed_len]; exact hln2
        have hmd3 : (d1.write 0 q).flushed.most 101 := flushed_most hmd2
        clear f10 HFl9
        have HC := both_crash hb10 (vp := .slice none 0 0) (picks := []) ⟨none, 0, rfl, Nat.zero_le _, fun q => by simp at q⟩ (fun b hb => by simp [Value.ownBlock] at hb) (fun i => Nat.le_trans (hmd3 i) (by omega))
        clear hb10
        go_wp2_with fail
        refine HC.mono ?_
        rintro e wa ⟨rfl, hba, fa⟩
        have HFa := Lib.hid (HF10.out.on fa hB0.out)
        clear fa HC
        have HD := both_dead hba
        rw [crash_dead] at HD
        have hfree := crash_free (d := (d1.write 0 q).flushed) []
        obtain ⟨dc, hdc⟩ : ∃ dc, dc = (d1.write 0 q).flushed.crash [] := ⟨_, rfl⟩
        have hcl : dc.rd.length = 4 := by rw [hdc, crash_len]; exact hln3
        have hcm : dc.most 200 := by rw [hdc]; exact crash_most (fun i => Nat.le_trans (hmd3 i) (by omega)) []
        rw [← hdc] at hba hfree
        clear hdc
        have HW := both_write hba (z := 0) (i := 0) rfl (by omega) HQ.out.2.1 (by have := hcm 0; omega) (r := 0) (by rw [free_alive hfree]; rfl)
        have hfw := free_write hfree 0 q
        have HBa := Lib.hid hba
        clear hba
        go_wp2_with fail
        refine HD.mono ?_
        rintro e wb ⟨rfl, rfl⟩
        clear HD
        go_wp2_with fail
        rw [HQ.out.2.2]
        refine HW.mono ?_
        rintro e wc ⟨rfl, hbc, fc⟩
        have HFc := Lib.hid (HFa.out.on fc hB0.out)
        have HFl := both_flush hbc (r := 0) (by rw [free_alive hfw]; rfl)
        clear fc hbc HW
        go_wp2_with fail
        refine HFl.mono ?_
        rintro e wd ⟨rfl, hbd, fd⟩
        have HFd := Lib.hid (HFc.out.on fd hB0.out)
        clear fd HFl hbd
        go_wp2_with fail
        refine (known_any _).mono ?_
        rintro e we ⟨rfl, fe⟩
        have HFe := Lib.hid (HFd.out.trans fe (fun _ _ q => q))
        clear fe
        go_wp2_with fail
        go_ret
        exact ⟨rfl, HFe.out⟩
      | false =>
        rw [hdd] at HD5
        go_wp2_with fail
        refine HD5.mono ?_
        rintro e w6 ⟨rfl, rfl⟩
        clear HD5
        have HC := both_crash hb5 (vp := .slice none 0 0) (picks := []) ⟨none, 0, rfl, Nat.zero_le _, fun q => by simp at q⟩ (fun b hb => by simp [Value.ownBlock] at hb) (fun i => Nat.le_trans (hmd' i) (by omega))
        clear hb5
        go_wp2_with fail
        refine HC.mono ?_
        rintro e wa ⟨rfl, hba, fa⟩
        have HFa := Lib.hid (HF5.out.on fa hB0.out)
        clear fa HC
        have HD := both_dead hba
        rw [crash_dead] at HD
        have hfree := crash_free (d := d) []
        obtain ⟨dc, hdc⟩ : ∃ dc, dc = d.crash [] := ⟨_, rfl⟩
        have hcl : dc.rd.length = 4 := by rw [hdc, crash_len]; exact hln
        have hcm : dc.most 200 := by rw [hdc]; exact crash_most (fun i => Nat.le_trans (hmd' i) (by omega)) []
        rw [← hdc] at hba hfree
        clear hdc
        have HW := both_write hba (z := 0) (i := 0) rfl (by omega) HQ.out.2.1 (by have := hcm 0; omega) (r := 0) (by rw [free_alive hfree]; rfl)
        have hfw := free_write hfree 0 q
        have HBa := Lib.hid hba
        clear hba
        go_wp2_with fail
        refine HD.mono ?_
        rintro e wb ⟨rfl, rfl⟩
        clear HD
        go_wp2_with fail
        rw [HQ.out.2.2]
        refine HW.mono ?_
        rintro e wc ⟨rfl, hbc, fc⟩
        have HFc := Lib.hid (HFa.out.on fc hB0.out)
        have HFl := both_flush hbc (r := 0) (by rw [free_alive hfw]; rfl)
        clear fc hbc HW
        go_wp2_with fail
        refine HFl.mono ?_
        rintro e wd ⟨rfl, hbd, fd⟩
        have HFd := Lib.hid (HFc.out.on fd hB0.out)
        clear fd HFl hbd
        go_wp2_with fail
        refine (known_any _).mono ?_
        rintro e we ⟨rfl, fe⟩
        have HFe := Lib.hid (HFd.out.trans fe (fun _ _ q => q))
        clear fe
        go_wp2_with fail
        go_ret
        exact ⟨rfl, HFe.out⟩
end Go.Proofs.Ytcpbhpddemflcaa
