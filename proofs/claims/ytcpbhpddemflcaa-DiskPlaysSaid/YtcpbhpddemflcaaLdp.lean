/- The law DiskPlays. -/
import Derived.Test.YtcpbhpddemflcaaCda
import Derived.Test.YtcpbhpddemflcaaDoz
import Derived.Test.YtcpbhpddemflcaaLfu
namespace Go.Proofs.Ytcpbhpddemflcaa
open Go.RowKit Go.Maps

theorem infoAct : (Try.prog.info? 37).map (·.size) = some 132 := by kernel_rfl
theorem actC_len {x : ActD} (h : x.s.length = 128) : (actC x).length = 132 := by simp [actC, cellsB_len, h]
theorem act_range {w : World} {b off : Nat} {x : ActD} (h : ActAt w b off x) : w.rangeAt b off (actC x) := fun j u hu => by
  have hl : (cellsB x.s).length = 128 := by rw [cellsB_len, h.in_.sl]
  match j with
  | 0 => simp [actC] at hu; rw [← hu]; exact h.c0
  | 1 => simp [actC] at hu; rw [← hu]; exact h.c1
  | 2 => simp [actC] at hu; rw [← hu]; exact h.c2
  | j + 3 =>
    simp only [actC, List.getElem?_cons_succ] at hu
    have e : off + (j + 3) = off + 3 + j := by omega
    rw [e]
    by_cases hj : j < 128
    · rw [List.getElem?_append_left (by omega)] at hu
      exact h.rs j u hu
    · rw [List.getElem?_append_right (by omega), hl] at hu
      have hj2 : j = 128 := by
        have := (List.getElem?_eq_some_iff.1 hu).1
        simp at this
        omega
      subst hj2
      simp at hu
      rw [← hu]
      exact h.c4
set_option maxRecDepth 100000 in
set_option maxHeartbeats 4000000 in
theorem plays_any {W : World} {v : Value} {xs : List ActD} (h : ActV W v xs) (hz : ∀ x ∈ xs, ActZ x) {st : Nat} (hs0 : 0 < st) (hs1 : st ≤ 20) (hfew : fewB xs 60 = true) :
    Calls Try.prog 3 #[.int .i64 st, v] W fun e w' => e = .returned (.bool true) ∧ Fr (fun _ => False) W w' := by
  have F1 := few_any h 60
  rw [hfew] at F1
  obtain ⟨B, hB⟩ : ∃ B, B = W.heap.size := ⟨_, rfl⟩
  have hB0 := Lib.hid hB
  have hlen : xs.length ≤ 60 := by
    unfold fewB at hfew
    simp at hfew
    exact hfew.2
  have hg1 : ¬ ((st : Int) > 20) := by omega
  have hg1' : ¬ (20 < (st : Int)) := by omega
  have hg2 : ¬ ((st : Int) < 1) := by omega
  have hg3 : ¬ ((st : Int) > 8192) := by omega
  have hg3' : ¬ (8192 < (st : Int)) := by omega
  have HX := Lib.hid (And.intro h (And.intro hlen hz))
  have HBg : ∀ w, Calls Try.prog 12 #[.int .i64 st] w _ := fun w => begin_any w (n := st) hs0 (by omega)
  clear hfew h hlen hz
  go_enter Try.func3, Try.ntmps3
  go_wp2_with fail
  refine F1.mono ?_
  rintro e w1 ⟨rfl, f1⟩
  clear F1
  have HB1 := HBg w1
  clear HBg
  go_wp2_with fail
  refine HB1.mono ?_
  rintro e w2 ⟨g, g', rfl, ⟨P, rv, rvs, hd, hr, hap⟩, f2⟩
  have HF2 := Lib.hid (f1.trans f2 (fun _ _ q => q))
  have HA2 : Hid (Alike w2 B g g' st 1) := Lib.hid ⟨newD st, newR st, ⟨P, rv, rvs, ⟨hd.1, fun b hb => ⟨by have := (hd.2 b hb).1; have := f1.size; omega, (hd.2 b hb).2⟩⟩, hr, fun b hb => ⟨by have := (hap b hb).1; have := f1.size; omega, (hap b hb).2⟩, fun _ q => q.elim⟩, sim_new, most_new st 1, by simp [newD]⟩
  clear hd hr hap f1 f2 HB1
  obtain ⟨A, cap, hv, hvl, hacts⟩ := HX.out.1
  subst hv
  obtain ⟨n, hn⟩ : ∃ n, n = xs.length := ⟨_, rfl⟩
  rw [← hn] at hvl hacts ⊢
  have hn60 : n ≤ 60 := by have := HX.out.2.1; omega
  have HN := Lib.hid (And.intro hn hacts)
  clear hn hacts hvl hB
  go_wp2_with fail
  go_loopw [10] (fun i wr => ∃ k : Nat, i = .int .i64 k ∧ k ≤ n ∧ Hid (Alike wr B g g' st (k + 1)) ∧ Hid (Fr (fun _ => False) W wr)) (fun i _ => n - (intOf i).toNat)
  case atStart => exact ⟨0, rfl, Nat.zero_le _, HA2, HF2⟩
  case round =>
    obtain ⟨k, rfl, hk, HA, HF⟩ := hrel
    clear HA2 HF2
    by_cases hlt : k < n
    · obtain ⟨b, off, rfl, hs0⟩ := HN.out.2 (by omega)
      obtain ⟨x, hx⟩ : ∃ x, xs[k]? = some x := ⟨_, List.getElem?_eq_getElem (by have := HN.out.1; omega)⟩
      have ha := (hs0 k x hx).new HF.out
      have haW := hs0 k x hx
      obtain ⟨d, r, hD, hS, hM, hdl⟩ := HA.out
      have HDo := cdo_any hD hS hM (by omega) (by omega) ha.in_ (fun b hb q => by have := haW.in_.pl b hb q; have := hB0.out; omega) (HX.out.2.2 x (List.mem_of_getElem? hx))
      rw [hdl] at HDo
      have HR := Lib.hid (act_range ha)
      have HLn := Lib.hid (actC_len ha.in_.sl)
      have hi0 : (0 : Int) ≤ (k : Int) := by omega
      have hi1 : (k : Int) < (n : Int) := by omega
      clear hx ha haW hD hS hM hdl HA hs0
      go_wp2_with (refine wpList_load_mid rfl 37 _ rfl b (off + k * 132) rfl (actC x) _ HR.out Try.underlying37 rfl (by rw [infoAct, HLn.out]) ?_)
      refine HDo.mono ?_
      rintro e w3 ⟨rfl, hA3, f3⟩
      have HF3 := Lib.hid (HF.out.on f3 hB0.out)
      have HA3 := Lib.hid hA3
      obtain ⟨d3, r3, hD3, hS3, _, _⟩ := hA3
      have HSm := duo_same hD3 hS3
      clear hD3 hS3 f3 HDo HR HF
      go_wp2_with fail
      refine HSm.mono ?_
      rintro e w4 ⟨rfl, f4⟩
      have HF4 := Lib.hid (HF3.out.trans f4 (fun _ _ q => q))
      have HA4 : Hid (Alike w4 B g g' st (k + 1 + 1)) := Lib.hid (by
        obtain ⟨d4, r4, q1, q2, q3, q4⟩ := HA3.out
        exact ⟨d4, r4, q1.new f4, q2, q3, q4⟩)
      clear f4 HSm HF3 HA3
      go_wp2_with fail
      exact ⟨⟨k + 1, by go_num, by omega, HA4, HF4⟩, by simp [intOf]; omega⟩
    · obtain rfl : n = k := by omega
      go_wp2_with fail
      refine (known_any _).mono ?_
      rintro e w5 ⟨rfl, f5⟩
      go_wp2_with fail
      go_ret
      exact ⟨rfl, HF.out.trans f5 (fun _ _ q => q)⟩
end Go.Proofs.Ytcpbhpddemflcaa
