/- couponref13: Sum. -/
import Derived.Test.YtmopkfjnjbimnaaKpu
namespace Go.Proofs.Ytmopkfjnjbimnaa
open Go.RowKit

def inL (l : List Int) (s : Int) : Bool := l.isEmpty || l.contains s
def sumTo (cs : List CpD) (l : List Int) : Int := ((cs.filter fun c => inL l c.st).map CpD.va).sum
theorem sumTo_snoc (cs : List CpD) (c : CpD) (l : List Int) : sumTo (cs ++ [c]) l = sumTo cs l + (if inL l c.st then c.va else 0) := by
  unfold sumTo
  rw [List.filter_append, List.map_append, List.sum_append]
  cases h : inL l c.st <;> simp [h]
theorem sumTo_le (l : List Int) : ∀ cs : List CpD, (∀ c ∈ cs, someB c.va = true) → 0 ≤ sumTo cs l ∧ sumTo cs l ≤ (cs.length : Int) * 1000000000000
  | [], _ => by simp [sumTo]
  | c :: cs, h => by
    have h1 : 0 ≤ c.va ∧ c.va ≤ 1000000000000 := of_decide_eq_true (h c (by simp))
    have h2 := sumTo_le l cs (fun x hx => h x (by simp [hx]))
    have h3 : sumTo (c :: cs) l = (if inL l c.st then c.va else 0) + sumTo cs l := by
      unfold sumTo
      cases hh : inL l c.st <;> simp [hh]
    rw [h3, List.length_cons]
    push_cast
    split <;> omega
set_option maxRecDepth 100000 in
set_option maxHeartbeats 4000000 in
theorem rsum_any {w : World} {v u : Value} {t : TkD} {l : List Int} (hv : TkV w v t) (hu : IntsAt w u l) (hul : l.length ≤ 100000) (hn : t.cps.length ≤ 4) (hs : ∀ c ∈ t.cps, someB c.va = true) :
    Calls Try.prog 26 #[v, u] w fun e w' => e = .returned (.int .i64 (sumT t l)) ∧ Fr (fun _ => False) w w' := by
  obtain ⟨z, hz⟩ : ∃ z, z = sumT t l := ⟨_, rfl⟩
  rw [← hz]
  have HZ := Lib.hid hz
  obtain ⟨sc, sx, se, rfl, a1, a2, a3⟩ := hv
  have HA := Lib.hid (And.intro a1 (And.intro a2 a3))
  obtain ⟨A1, n1, c1, e1, l1⟩ : ∃ A n c, sc = .slice A n c ∧ n = t.cps.length := by obtain ⟨A, c, e, _⟩ := a1.slice; exact ⟨A, _, c, e, rfl⟩
  obtain ⟨A2, n2, c2, e2, l2⟩ : ∃ A n c, sx = .slice A n c ∧ n = t.txs.length := by obtain ⟨A, c, e, _⟩ := a2.slice; exact ⟨A, _, c, e, rfl⟩
  obtain ⟨A3, n3, c3, e3, l3⟩ : ∃ A n c, se = .slice A n c ∧ n = t.his.length := by obtain ⟨A, c, e, _⟩ := a3.slice; exact ⟨A, _, c, e, rfl⟩
  subst e1 e2 e3
  have HL := Lib.hid (And.intro l1 (And.intro l2 l3))
  obtain ⟨W0, hW0⟩ : ∃ W, W = w.alloc (.cells (tkA t (.slice A1 n1 c1) (.slice A2 n2 c2) (.slice A3 n3 c3)) 27) := ⟨_, rfl⟩
  have HB : Hid (Fr (fun _ => False) w W0 ∧ Blk W0 w.heap.size 27 (tkA t (.slice A1 n1 c1) (.slice A2 n2 c2) (.slice A3 n3 c3)) ∧ W0.heap.size = w.heap.size + 1) := Lib.hid (by rw [hW0]; exact ⟨(Fr.refl _ w).alloc _, Blk.new w _ _, Array.size_push _⟩)
  have HQ := Lib.hid hW0
  obtain ⟨Al, cl, rfl, hcl, hAl⟩ := hu
  obtain ⟨nl, hnl⟩ : ∃ n, n = l.length := ⟨_, rfl⟩
  rw [← hnl]
  rw [← hnl] at hAl hul
  have m1 : n1 ≤ 4 := by omega
  have HS := Lib.hid hs
  have HU := Lib.hid (And.intro hAl hnl)
  clear a1 a2 a3 l1 l2 l3 hW0 hz hn hs hcl hAl hnl
  go_enter Try.func26, Try.ntmps26
  go_upto_region 1 with fail
  rw [← HQ.out]
  clear HQ
  go_wp2_with fail
  have H0 : Hid (Fr (fun _ => False) W0 W0) := Lib.hid (Fr.refl _ _)
  go_loopw [5, 6] (fun s x wr => ∃ k : Nat, s = .int .i64 (sumTo (t.cps.take k) l) ∧ x = .int .i64 k ∧ k ≤ n1 ∧ Hid (Fr (fun _ => False) W0 wr)) (fun _ x _ => n1 - (intOf x).toNat)
  case atStart => exact ⟨0, rfl, rfl, Nat.zero_le _, H0⟩
  case round =>
    clear H0
    obtain ⟨k, rfl, rfl, hk, HF⟩ := hrel
    have hx1 := cp_cell (HB.out.2.1.keep HF.out (fun q => q)) 3 rfl
    obtain ⟨S, hS⟩ : ∃ S, S = sumTo (t.cps.take k) l := ⟨_, rfl⟩
    rw [← hS]
    by_cases hlt : k < n1
    · obtain ⟨x1, hx⟩ : ∃ x, t.cps[k]? = some x := ⟨_, List.getElem?_eq_getElem (by rw [← HL.out.1]; exact hlt)⟩
      obtain ⟨b1, o1, cc1, e1, hc1⟩ := HA.out.1.cell hx
      injection e1 with e1 e1n e1c
      subst e1
      clear hx1
      have hx1 := cp_cell (HB.out.2.1.keep HF.out (fun q => q)) 3 rfl
      obtain ⟨y, hy⟩ : ∃ y, y = x1.va := ⟨_, rfl⟩
      obtain ⟨sz, hsz⟩ : ∃ z, z = x1.st := ⟨_, rfl⟩
      have HSC : Hid (∀ W, Fr (fun _ => False) W0 W → W.cell? ⟨w.heap.size, 3, none⟩ = some (.slice (some ⟨b1, o1, none⟩) n1 c1)) := Lib.hid (fun W f => cp_cell (HB.out.2.1.keep f (fun q => q)) 3 rfl)
      have HSZ : Hid (∀ W, Fr (fun _ => False) W0 W → W.cell? ⟨b1, o1 + k * 6 + 3, none⟩ = some (.int .i64 sz)) := Lib.hid (fun W f => by
        have h5 := hc1 3 (.int .i64 x1.st) rfl
        rw [hsz]
        exact ((HB.out.1.trans f (fun _ _ q => q)).cell (World.block_lt_of_cell? w _ h5) (fun q => q)).trans h5)
      have HYC : Hid (∀ W, Fr (fun _ => False) W0 W → W.cell? ⟨b1, o1 + k * 6 + 2, none⟩ = some (.int .i64 y)) := Lib.hid (fun W f => by
        have h5 := hc1 2 (.int .i64 x1.va) rfl
        rw [hy]
        exact ((HB.out.1.trans f (fun _ _ q => q)).cell (World.block_lt_of_cell? w _ h5) (fun q => q)).trans h5)
      have hk0 : (0 : Int) ≤ (k : Int) := by omega
      have hkm : (k : Int) < (n1 : Int) := by omega
      have HK := Lib.hid (And.intro hk0 hkm)
      have hsum := sumTo_le l (t.cps.take k) (fun c hc => HS.out c (List.mem_of_mem_take hc))
      rw [← hS] at hsum
      have hl4 : (t.cps.take k).length ≤ 4 := by rw [List.length_take]; omega
      have hy0 : 0 ≤ y ∧ y ≤ 1000000000000 := by rw [hy]; exact of_decide_eq_true (HS.out x1 (List.mem_of_getElem? hx))
      have hadd : wrap64 (S + y) = S + y := wrap64_id (by omega) (by omega)
      have hnx : sumTo (t.cps.take (k + 1)) l = S + (if inL l sz then y else 0) := by rw [take_succ' hx, sumTo_snoc, hS, hy, hsz]
      have HNX := Lib.hid (And.intro hnx (And.intro hlt hadd))
      have HF9 := HF
      clear hx hc1 e1n e1c hlt hS hy hsz hsum hl4 hy0 hnx hadd
      obtain ⟨e0, he0⟩ : ∃ b, b = ((nl : Int) == 0) := ⟨_, rfl⟩
      have HE0 : Hid (e0 = l.isEmpty) := Lib.hid (by
        rw [he0, Bool.eq_iff_iff, beq_iff_eq, List.isEmpty_iff, ← List.length_eq_zero_iff, ← HU.out.2]
        omega)
      have he0' := he0.symm
      clear he0
      go_wp2_with fail
      generalize wr = wo at *
      have HI0 : Hid (e0 = (l.isEmpty || (l.take 0).contains sz)) := Lib.hid (by rw [HE0.out]; simp)
      go_loopw [7, 8] (fun b x wq => ∃ (ib : Bool) (j : Nat), b = .bool ib ∧ x = .int .i64 j ∧ j ≤ nl ∧ Hid (ib = (l.isEmpty || (l.take j).contains sz)) ∧ Hid (Fr (fun _ => False) W0 wq)) (fun _ x _ => nl - (intOf x).toNat)
      case atStart => exact ⟨e0, 0, rfl, rfl, Nat.zero_le _, HI0, HF9⟩
      case round =>
        clear HI0 HF9
        obtain ⟨ib, j, rfl, rfl, hj, HI, HF⟩ := hrel
        by_cases hlt : j < nl
        · obtain ⟨lz, hlz⟩ : ∃ z, l[j]? = some z := ⟨_, List.getElem?_eq_getElem (by rw [← HU.out.2]; exact hlt)⟩
          have hjm : (j : Int) < (nl : Int) := by omega
          have htk : (l.take (j + 1)).contains sz = ((l.take j).contains sz || lz == sz) := by
            rw [take_succ' hlz, List.contains_eq_any_beq, List.contains_eq_any_beq, List.any_append]
            simp [Bool.beq_comm, eq_comm]
          have HXY := Lib.hid (And.intro hlz (And.intro hlt htk))
          cases ib with
          | true =>
            clear hlz hlt htk
            go_wp2_with fail
            refine wp_region_held_drew (S := fun w' => Fr (fun _ => False) W0 w') (by kernel_rfl) (HF.out.drew) (fun hS0 => ?_)
            refine anyH_take 0 25 (.bool true) rfl rfl (by kernel_rfl) (by kernel_rfl) (by kernel_rfl) (fun _ _ _ h => h) (.inl ⟨by rfl, fun w'' hS => by go_simp⟩) hS0 ?_
            (simp only [List.setIfInBounds_toArray, List.set_cons_zero, List.set_cons_succ])
            refine anyH_take 1 26 (.bool true) rfl rfl (by kernel_rfl) (by kernel_rfl) (by kernel_rfl) (fun _ _ _ h => h) (.inl ⟨by rfl, fun w'' hS => by go_simp⟩) hS0 ?_
            (simp only [List.setIfInBounds_toArray, List.set_cons_zero, List.set_cons_succ])
            refine anyH_take 2 27 undef rfl rfl (by kernel_rfl) (by kernel_rfl) (by kernel_rfl) (fun _ _ _ h => h) (.inr ⟨by rfl, rfl⟩) hS0 ?_
            (simp only [List.setIfInBounds_toArray, List.set_cons_zero, List.set_cons_succ])
            refine anyH_take 3 28 undef rfl rfl (by kernel_rfl) (by kernel_rfl) (by kernel_rfl) (fun _ _ _ h => h) (.inr ⟨by rfl, rfl⟩) hS0 ?_
            (simp only [List.setIfInBounds_toArray, List.set_cons_zero, List.set_cons_succ])
            refine anyH_take 4 29 undef rfl rfl (by kernel_rfl) (by kernel_rfl) (by kernel_rfl) (fun _ _ _ h => h) (.inr ⟨by rfl, rfl⟩) hS0 ?_
            (simp only [List.setIfInBounds_toArray, List.set_cons_zero, List.set_cons_succ])
            refine anyH_take 5 30 undef rfl rfl (by kernel_rfl) (by kernel_rfl) (by kernel_rfl) (fun _ _ _ h => h) (.inr ⟨by rfl, rfl⟩) hS0 ?_
            (simp only [List.setIfInBounds_toArray, List.set_cons_zero, List.set_cons_succ])
            refine anyH_take 6 31 undef rfl rfl (by kernel_rfl) (by kernel_rfl) (by kernel_rfl) (fun _ _ _ h => h) (.inr ⟨by rfl, rfl⟩) hS0 ?_
            (simp only [List.setIfInBounds_toArray, List.set_cons_zero, List.set_cons_succ])
            refine anyH_take 7 32 undef rfl rfl (by kernel_rfl) (by kernel_rfl) (by kernel_rfl) (fun _ _ _ h => h) (.inr ⟨by rfl, rfl⟩) hS0 ?_
            (simp only [List.setIfInBounds_toArray, List.set_cons_zero, List.set_cons_succ])
            refine anyH_take 8 33 undef rfl rfl (by kernel_rfl) (by kernel_rfl) (by kernel_rfl) (fun _ _ _ h => h) (.inr ⟨by rfl, rfl⟩) hS0 ?_
            (simp only [List.setIfInBounds_toArray, List.set_cons_zero, List.set_cons_succ])
            refine anyH_take 9 34 undef rfl rfl (by kernel_rfl) (by kernel_rfl) (by kernel_rfl) (fun _ _ _ h => h) (.inr ⟨by rfl, rfl⟩) hS0 ?_
            (simp only [List.setIfInBounds_toArray, List.set_cons_zero, List.set_cons_succ])
            refine anyH_take 10 35 undef rfl rfl (by kernel_rfl) (by kernel_rfl) (by kernel_rfl) (fun _ _ _ h => h) (.inr ⟨by rfl, rfl⟩) hS0 ?_
            (simp only [List.setIfInBounds_toArray, List.set_cons_zero, List.set_cons_succ])
            refine anyH_take 11 36 undef rfl rfl (by kernel_rfl) (by kernel_rfl) (by kernel_rfl) (fun _ _ _ h => h) (.inr ⟨by rfl, rfl⟩) hS0 ?_
            (simp only [List.setIfInBounds_toArray, List.set_cons_zero, List.set_cons_succ])
            refine anyH_take 12 37 undef rfl rfl (by kernel_rfl) (by kernel_rfl) (by kernel_rfl) (fun _ _ _ h => h) (.inr ⟨by rfl, rfl⟩) hS0 ?_
            (simp only [List.setIfInBounds_toArray, List.set_cons_zero, List.set_cons_succ])
            refine anyH_take 13 38 (.bool true) rfl rfl (by kernel_rfl) (by kernel_rfl) (by kernel_rfl) (fun _ _ _ h => h) (.inl ⟨by rfl, fun w'' hS => by go_simp⟩) hS0 ?_
            (simp only [List.setIfInBounds_toArray, List.set_cons_zero, List.set_cons_succ])
            refine anyH_take 14 7 (.bool true) rfl rfl (by kernel_rfl) (by kernel_rfl) (by kernel_rfl) (fun _ _ _ h => h) (.inl ⟨by rfl, fun w'' hS => by go_simp⟩) hS0 ?_
            (simp only [List.setIfInBounds_toArray, List.set_cons_zero, List.set_cons_succ])
            refine wpAnyH_done (by kernel_rfl) ?_ _
            have HF2 := Lib.hid hS0
            clear hS0
            go_wp2_with fail
            refine ⟨⟨true, j + 1, rfl, by go_num, by have := HXY.out.2.1; omega, Lib.hid (by rw [HXY.out.2.2, ← Bool.or_assoc, ← HI.out]; rfl), HF2⟩, ?_⟩
            simp [intOf]
            have := HXY.out.2.1
            omega
          | false =>
            obtain ⟨bl, ol, rfl, hcl⟩ := HU.out.1 (by omega)
            have h5 := hcl j lz hlz
            have HLZ : Hid (∀ W, Fr (fun _ => False) W0 W → W.cell? ⟨bl, ol + j, none⟩ = some (.int .i64 lz)) := Lib.hid (fun W f => ((HB.out.1.trans f (fun _ _ q => q)).cell (World.block_lt_of_cell? w _ h5) (fun q => q)).trans h5)
            have HJ : Hid ((0 : Int) ≤ (j : Int) ∧ (j : Int) < (nl : Int)) := Lib.hid ⟨by omega, hjm⟩
            clear hlz hlt htk hcl h5
            by_cases he : lz = sz
            · have HEQ : Hid ((lz == sz) = true) := Lib.hid (by rw [beq_iff_eq]; exact he)
              clear he
              go_wp2_with fail
              refine wp_region_held_drew (S := fun w' => Fr (fun _ => False) W0 w') (by kernel_rfl) (HF.out.drew) (fun hS0 => ?_)
              refine anyH_take 0 25 (.bool false) rfl rfl (by kernel_rfl) (by kernel_rfl) (by kernel_rfl) (fun _ _ _ h => h) (.inl ⟨by rfl, fun w'' hS => by go_simp⟩) hS0 ?_
              (simp only [List.setIfInBounds_toArray, List.set_cons_zero, List.set_cons_succ])
              refine anyH_take 1 26 (.bool false) rfl rfl (by kernel_rfl) (by kernel_rfl) (by kernel_rfl) (fun _ _ _ h => h) (.inl ⟨by rfl, fun w'' hS => by go_simp⟩) hS0 ?_
              (simp only [List.setIfInBounds_toArray, List.set_cons_zero, List.set_cons_succ])
              refine anyH_take 2 27 (.slice (some ⟨bl, ol, none⟩) nl cl) rfl rfl (by kernel_rfl) (by kernel_rfl) (by kernel_rfl) (fun _ _ _ h => h) (.inl ⟨by rfl, fun w'' hS => by go_simp⟩) hS0 ?_
              (simp only [List.setIfInBounds_toArray, List.set_cons_zero, List.set_cons_succ])
              refine anyH_take 3 28 (.int .i64 (j : Nat)) rfl rfl (by kernel_rfl) (by kernel_rfl) (by kernel_rfl) (fun _ _ _ h => h) (.inl ⟨by rfl, fun w'' hS => by go_simp⟩) hS0 ?_
              (simp only [List.setIfInBounds_toArray, List.set_cons_zero, List.set_cons_succ])
              refine anyH_take 4 29 (.pointer (some ⟨bl, ol + j, none⟩)) rfl rfl (by kernel_rfl) (by kernel_rfl) (by kernel_rfl) (fun _ _ _ h => h) (.inl ⟨by rfl, fun w'' hS => by have q0 := HJ.out.1; have q1 := HJ.out.2; go_simp⟩) hS0 ?_
              (simp only [List.setIfInBounds_toArray, List.set_cons_zero, List.set_cons_succ])
              refine anyH_take 5 30 (.int .i64 lz) rfl rfl (by kernel_rfl) (by kernel_rfl) (by kernel_rfl) (fun _ _ _ h => h) (.inl ⟨by rfl, fun w'' hS => by have q0 := HLZ.out _ hS; go_simp⟩) hS0 ?_
              (simp only [List.setIfInBounds_toArray, List.set_cons_zero, List.set_cons_succ])
              refine anyH_take 6 31 (.pointer (some ⟨w.heap.size, 3, none⟩)) rfl rfl (by kernel_rfl) (by kernel_rfl) (by kernel_rfl) (fun _ _ _ h => h) (.inl ⟨by rfl, fun w'' hS => by go_simp⟩) hS0 ?_
              (simp only [List.setIfInBounds_toArray, List.set_cons_zero, List.set_cons_succ])
              refine anyH_take 7 32 (.slice (some ⟨b1, o1, none⟩) n1 c1) rfl rfl (by kernel_rfl) (by kernel_rfl) (by kernel_rfl) (fun _ _ _ h => h) (.inl ⟨by rfl, fun w'' hS => by have q0 := HSC.out _ hS; go_simp⟩) hS0 ?_
              (simp only [List.setIfInBounds_toArray, List.set_cons_zero, List.set_cons_succ])
              refine anyH_take 8 33 (.int .i64 (k : Nat)) rfl rfl (by kernel_rfl) (by kernel_rfl) (by kernel_rfl) (fun _ _ _ h => h) (.inl ⟨by rfl, fun w'' hS => by go_simp⟩) hS0 ?_
              (simp only [List.setIfInBounds_toArray, List.set_cons_zero, List.set_cons_succ])
              refine anyH_take 9 34 (.pointer (some ⟨b1, o1 + k * 6, none⟩)) rfl rfl (by kernel_rfl) (by kernel_rfl) (by kernel_rfl) (fun _ _ _ h => h) (.inl ⟨by rfl, fun w'' hS => by have q0 := HK.out.1; have q1 := HK.out.2; go_simp⟩) hS0 ?_
              (simp only [List.setIfInBounds_toArray, List.set_cons_zero, List.set_cons_succ])
              refine anyH_take 10 35 (.pointer (some ⟨b1, o1 + k * 6 + 3, none⟩)) rfl rfl (by kernel_rfl) (by kernel_rfl) (by kernel_rfl) (fun _ _ _ h => h) (.inl ⟨by rfl, fun w'' hS => by go_simp⟩) hS0 ?_
              (simp only [List.setIfInBounds_toArray, List.set_cons_zero, List.set_cons_succ])
              refine anyH_take 11 36 (.int .i64 sz) rfl rfl (by kernel_rfl) (by kernel_rfl) (by kernel_rfl) (fun _ _ _ h => h) (.inl ⟨by rfl, fun w'' hS => by have q0 := HSZ.out _ hS; go_simp⟩) hS0 ?_
              (simp only [List.setIfInBounds_toArray, List.set_cons_zero, List.set_cons_succ])
              refine anyH_take 12 37 (.bool true) rfl rfl (by kernel_rfl) (by kernel_rfl) (by kernel_rfl) (fun _ _ _ h => h) (.inl ⟨by rfl, fun w'' hS => by have q0 := HEQ.out; go_simp⟩) hS0 ?_
              (simp only [List.setIfInBounds_toArray, List.set_cons_zero, List.set_cons_succ])
              refine anyH_take 13 38 (.bool true) rfl rfl (by kernel_rfl) (by kernel_rfl) (by kernel_rfl) (fun _ _ _ h => h) (.inl ⟨by rfl, fun w'' hS => by go_simp⟩) hS0 ?_
              (simp only [List.setIfInBounds_toArray, List.set_cons_zero, List.set_cons_succ])
              refine anyH_take 14 7 (.bool true) rfl rfl (by kernel_rfl) (by kernel_rfl) (by kernel_rfl) (fun _ _ _ h => h) (.inl ⟨by rfl, fun w'' hS => by go_simp⟩) hS0 ?_
              (simp only [List.setIfInBounds_toArray, List.set_cons_zero, List.set_cons_succ])
              refine wpAnyH_done (by kernel_rfl) ?_ _
              have HF2 := Lib.hid hS0
              clear hS0
              go_wp2_with fail
              refine ⟨⟨true, j + 1, rfl, by go_num, by have := HXY.out.2.1; omega, Lib.hid (by rw [HXY.out.2.2, ← Bool.or_assoc, ← HI.out, HEQ.out]; rfl), HF2⟩, ?_⟩
              simp [intOf]
              have := HXY.out.2.1
              omega
            · have HEQ : Hid ((lz == sz) = false) := Lib.hid (by rw [beq_eq_false_iff_ne]; exact he)
              clear he
              go_wp2_with fail
              refine wp_region_held_drew (S := fun w' => Fr (fun _ => False) W0 w') (by kernel_rfl) (HF.out.drew) (fun hS0 => ?_)
              refine anyH_take 0 25 (.bool false) rfl rfl (by kernel_rfl) (by kernel_rfl) (by kernel_rfl) (fun _ _ _ h => h) (.inl ⟨by rfl, fun w'' hS => by go_simp⟩) hS0 ?_
              (simp only [List.setIfInBounds_toArray, List.set_cons_zero, List.set_cons_succ])
              refine anyH_take 1 26 (.bool false) rfl rfl (by kernel_rfl) (by kernel_rfl) (by kernel_rfl) (fun _ _ _ h => h) (.inl ⟨by rfl, fun w'' hS => by go_simp⟩) hS0 ?_
              (simp only [List.setIfInBounds_toArray, List.set_cons_zero, List.set_cons_succ])
              refine anyH_take 2 27 (.slice (some ⟨bl, ol, none⟩) nl cl) rfl rfl (by kernel_rfl) (by kernel_rfl) (by kernel_rfl) (fun _ _ _ h => h) (.inl ⟨by rfl, fun w'' hS => by go_simp⟩) hS0 ?_
              (simp only [List.setIfInBounds_toArray, List.set_cons_zero, List.set_cons_succ])
              refine anyH_take 3 28 (.int .i64 (j : Nat)) rfl rfl (by kernel_rfl) (by kernel_rfl) (by kernel_rfl) (fun _ _ _ h => h) (.inl ⟨by rfl, fun w'' hS => by go_simp⟩) hS0 ?_
              (simp only [List.setIfInBounds_toArray, List.set_cons_zero, List.set_cons_succ])
              refine anyH_take 4 29 (.pointer (some ⟨bl, ol + j, none⟩)) rfl rfl (by kernel_rfl) (by kernel_rfl) (by kernel_rfl) (fun _ _ _ h => h) (.inl ⟨by rfl, fun w'' hS => by have q0 := HJ.out.1; have q1 := HJ.out.2; go_simp⟩) hS0 ?_
              (simp only [List.setIfInBounds_toArray, List.set_cons_zero, List.set_cons_succ])
              refine anyH_take 5 30 (.int .i64 lz) rfl rfl (by kernel_rfl) (by kernel_rfl) (by kernel_rfl) (fun _ _ _ h => h) (.inl ⟨by rfl, fun w'' hS => by have q0 := HLZ.out _ hS; go_simp⟩) hS0 ?_
              (simp only [List.setIfInBounds_toArray, List.set_cons_zero, List.set_cons_succ])
              refine anyH_take 6 31 (.pointer (some ⟨w.heap.size, 3, none⟩)) rfl rfl (by kernel_rfl) (by kernel_rfl) (by kernel_rfl) (fun _ _ _ h => h) (.inl ⟨by rfl, fun w'' hS => by go_simp⟩) hS0 ?_
              (simp only [List.setIfInBounds_toArray, List.set_cons_zero, List.set_cons_succ])
              refine anyH_take 7 32 (.slice (some ⟨b1, o1, none⟩) n1 c1) rfl rfl (by kernel_rfl) (by kernel_rfl) (by kernel_rfl) (fun _ _ _ h => h) (.inl ⟨by rfl, fun w'' hS => by have q0 := HSC.out _ hS; go_simp⟩) hS0 ?_
              (simp only [List.setIfInBounds_toArray, List.set_cons_zero, List.set_cons_succ])
              refine anyH_take 8 33 (.int .i64 (k : Nat)) rfl rfl (by kernel_rfl) (by kernel_rfl) (by kernel_rfl) (fun _ _ _ h => h) (.inl ⟨by rfl, fun w'' hS => by go_simp⟩) hS0 ?_
              (simp only [List.setIfInBounds_toArray, List.set_cons_zero, List.set_cons_succ])
              refine anyH_take 9 34 (.pointer (some ⟨b1, o1 + k * 6, none⟩)) rfl rfl (by kernel_rfl) (by kernel_rfl) (by kernel_rfl) (fun _ _ _ h => h) (.inl ⟨by rfl, fun w'' hS => by have q0 := HK.out.1; have q1 := HK.out.2; go_simp⟩) hS0 ?_
              (simp only [List.setIfInBounds_toArray, List.set_cons_zero, List.set_cons_succ])
              refine anyH_take 10 35 (.pointer (some ⟨b1, o1 + k * 6 + 3, none⟩)) rfl rfl (by kernel_rfl) (by kernel_rfl) (by kernel_rfl) (fun _ _ _ h => h) (.inl ⟨by rfl, fun w'' hS => by go_simp⟩) hS0 ?_
              (simp only [List.setIfInBounds_toArray, List.set_cons_zero, List.set_cons_succ])
              refine anyH_take 11 36 (.int .i64 sz) rfl rfl (by kernel_rfl) (by kernel_rfl) (by kernel_rfl) (fun _ _ _ h => h) (.inl ⟨by rfl, fun w'' hS => by have q0 := HSZ.out _ hS; go_simp⟩) hS0 ?_
              (simp only [List.setIfInBounds_toArray, List.set_cons_zero, List.set_cons_succ])
              refine anyH_take 12 37 (.bool false) rfl rfl (by kernel_rfl) (by kernel_rfl) (by kernel_rfl) (fun _ _ _ h => h) (.inl ⟨by rfl, fun w'' hS => by have q0 := HEQ.out; go_simp⟩) hS0 ?_
              (simp only [List.setIfInBounds_toArray, List.set_cons_zero, List.set_cons_succ])
              refine anyH_take 13 38 (.bool false) rfl rfl (by kernel_rfl) (by kernel_rfl) (by kernel_rfl) (fun _ _ _ h => h) (.inl ⟨by rfl, fun w'' hS => by go_simp⟩) hS0 ?_
              (simp only [List.setIfInBounds_toArray, List.set_cons_zero, List.set_cons_succ])
              refine anyH_take 14 7 (.bool false) rfl rfl (by kernel_rfl) (by kernel_rfl) (by kernel_rfl) (fun _ _ _ h => h) (.inl ⟨by rfl, fun w'' hS => by go_simp⟩) hS0 ?_
              (simp only [List.setIfInBounds_toArray, List.set_cons_zero, List.set_cons_succ])
              refine wpAnyH_done (by kernel_rfl) ?_ _
              have HF2 := Lib.hid hS0
              clear hS0
              go_wp2_with fail
              refine ⟨⟨false, j + 1, rfl, by go_num, by have := HXY.out.2.1; omega, Lib.hid (by rw [HXY.out.2.2, ← Bool.or_assoc, ← HI.out, HEQ.out]; rfl), HF2⟩, ?_⟩
              simp [intOf]
              have := HXY.out.2.1
              omega
        · obtain rfl : j = nl := by omega
          have hjj : ¬ (j : Int) < (j : Int) := by omega
          have hin : inL l sz = ib := by
            rw [HI.out, List.take_of_length_le (by rw [← HU.out.2]; exact Nat.le_refl _)]
            rfl
          have hnx := HNX.out.1
          rw [hin] at hnx
          have HNY := Lib.hid hnx
          have hx9 := cp_cell (HB.out.2.1.keep HF.out (fun q => q)) 3 rfl
          have hy9 := HYC.out _ HF.out
          have hadd := HNX.out.2.2
          clear hlt hin hnx
          cases ib with
          | true =>
            go_wp2_with fail
            refine ⟨⟨k + 1, by rw [HNY.out, hadd]; rfl, by go_num, by have := HNX.out.2.1; omega, HF⟩, ?_⟩
            simp [intOf]
            have := HNX.out.2.1
            omega
          | false =>
            go_wp2_with fail
            refine ⟨⟨k + 1, by rw [HNY.out]; simp, by go_num, by have := HNX.out.2.1; omega, HF⟩, ?_⟩
            simp [intOf]
            have := HNX.out.2.1
            omega
    · obtain rfl : k = n1 := by omega
      have hkk : ¬ (k : Int) < (k : Int) := by omega
      obtain rfl : z = S := by
        rw [HZ.out, hS, List.take_of_length_le (by rw [← HL.out.1]; exact Nat.le_refl _)]
        rfl
      clear hlt hS
      go_wp2_with fail
      go_ret
      exact ⟨rfl, HB.out.1.trans HF.out (fun _ _ q => q)⟩
end Go.Proofs.Ytmopkfjnjbimnaa
