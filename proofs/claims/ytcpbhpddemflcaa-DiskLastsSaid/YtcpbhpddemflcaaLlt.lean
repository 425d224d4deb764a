/- couponlaw03.DiskLasts. -/
import Derived.Test.YtcpbhpddemflcaaStr
namespace Go.Proofs.Ytcpbhpddemflcaa
open Go.RowKit Go.Maps

/-- Is the first half (the second one) that of what it was, or of one that was written? -/
def fstB (s x : List UInt8) (cs : List ActD) (i : Nat) : Bool := decide (s.take 64 = x.take 64) || cs.any fun a => decide (a.a = (i : Int)) && decide (s.take 64 = a.s.take 64)
def sndB (s x : List UInt8) (cs : List ActD) (i : Nat) : Bool := decide (s.drop 64 = x.drop 64) || cs.any fun a => decide (a.a = (i : Int)) && decide (s.drop 64 = a.s.drop 64)
theorem fstB_true {s x v : List UInt8} {cs : List ActD} {i : Nat} (h : Cand x cs i v) (e : s.take 64 = v.take 64) : fstB s x cs i = true := by
  unfold fstB
  rcases h with rfl | ⟨a, ha, h1, rfl⟩
  · simp [e]
  · rw [Bool.or_eq_true, List.any_eq_true]
    exact .inr ⟨a, ha, by simp [h1, e]⟩
theorem sndB_true {s x v : List UInt8} {cs : List ActD} {i : Nat} (h : Cand x cs i v) (e : s.drop 64 = v.drop 64) : sndB s x cs i = true := by
  unfold sndB
  rcases h with rfl | ⟨a, ha, h1, rfl⟩
  · simp [e]
  · rw [Bool.or_eq_true, List.any_eq_true]
    exact .inr ⟨a, ha, by simp [h1, e]⟩
theorem fstB_snoc (s x : List UInt8) (cs : List ActD) (a : ActD) (i : Nat) : fstB s x (cs ++ [a]) i = (fstB s x cs i || (decide (a.a = (i : Int)) && decide (s.take 64 = a.s.take 64))) := by
  simp [fstB, Bool.or_assoc]
theorem sndB_snoc (s x : List UInt8) (cs : List ActD) (a : ActD) (i : Nat) : sndB s x (cs ++ [a]) i = (sndB s x cs i || (decide (a.a = (i : Int)) && decide (s.drop 64 = a.s.drop 64))) := by
  simp [sndB, Bool.or_assoc]

set_option maxRecDepth 100000 in
set_option maxHeartbeats 4000000 in
theorem lasts_any {W : World} {n : Nat} (hn0 : 0 < n) (hn1 : n ≤ 20) {v1 v2 vp : Value} {l more : List ActD} {picks : List Int} (h1 : ActV W v1 l) (h2 : ActV W v2 more) (hp : IntsAt W vp picks) (hpb : ∀ b, vp.ownBlock = some b → 0 < picks.length → b < W.heap.size)
    (hf1 : fewB l 40 = true) (hf2 : fewB more 40 = true) (hpl : picks.length ≤ 100) :
    Calls Try.prog 4 #[.int .i64 n, v1, v2, vp] W fun e w' => e = .returned (.bool true) ∧ Fr (fun _ => False) W w' := by
  have F1 := few_any h1 40
  rw [hf1] at F1
  have hl1 : l.length ≤ 40 := by unfold fewB at hf1; simp at hf1; exact hf1.2
  have hl2 : more.length ≤ 40 := by unfold fewB at hf2; simp at hf2; exact hf2.2
  obtain ⟨B, hB⟩ : ∃ B, B = W.heap.size := ⟨_, rfl⟩
  have HP := Lib.hid (And.intro hp (And.intro hpb (And.intro hB (And.intro h2 hf2))))
  obtain ⟨Ap, cp, hvp, hpm, hpc⟩ := hp
  subst hvp
  obtain ⟨A1, c1, hv1, hm1, ha1⟩ := h1
  subst hv1
  obtain ⟨A2, c2, hv2, hm2, ha2⟩ := h2
  subst hv2
  obtain ⟨n1, hn1e⟩ : ∃ n1, n1 = l.length := ⟨_, rfl⟩
  obtain ⟨n2, hn2e⟩ : ∃ n2, n2 = more.length := ⟨_, rfl⟩
  obtain ⟨np, hnpe⟩ : ∃ np, np = picks.length := ⟨_, rfl⟩
  rw [← hn1e] at hl1 ha1 F1 ⊢
  rw [← hn2e] at hl2 ha2 ⊢
  rw [← hnpe] at hpl ⊢
  have HA := Lib.hid (And.intro hn1e (And.intro hn2e (And.intro hnpe (And.intro ha1 ha2))))
  have hg1 : ¬ ((n : Int) < 1) := by omega
  have hg2 : ¬ (20 < (n : Int)) := by omega
  have hg2' : ¬ ((n : Int) > 20) := by omega
  have hg3 : ¬ (100 < (np : Int)) := by omega
  have hg3' : ¬ ((np : Int) > 100) := by omega
  clear hf1 hf2 hpb hpm hpc hm1 hm2 ha1 ha2 hn1e hn2e hnpe hB
  go_enter Try.func4, Try.ntmps4
  go_wp2_with fail
  refine F1.mono ?_
  rintro e w1 ⟨rfl, f1⟩
  have F2 := few_any (HP.out.2.2.2.1.new f1) 40
  rw [HP.out.2.2.2.2, ← HA.out.2.1] at F2
  have HF1 := Lib.hid f1
  clear f1 F1
  go_wp2_with fail
  refine F2.mono ?_
  rintro e w2 ⟨rfl, f2⟩
  have HF2 := Lib.hid (HF1.out.trans f2 (fun _ _ q => q))
  clear f2 F2 HF1
  have HBg := begin_any w2 (n := n) hn0 (by omega)
  go_wp2_with fail
  refine HBg.mono ?_
  rintro e w3 ⟨g, gr, rfl, ⟨P, rv, rvs, hd, _, _⟩, f3⟩
  have hone : Hid (One w3 B g (newD n) ∧ Fr (fun _ => False) W w3) := Lib.hid ⟨One.mono ⟨P, hd⟩ (by rw [HP.out.2.2.1]; exact HF2.out.size), HF2.out.trans f3 (fun _ _ q => q)⟩
  clear hd f3 HBg HF2
  go_wp2_with fail
  -- the first writes
  go_loopw [12] (fun i wr => ∃ k : Nat, i = .int .i64 k ∧ k ≤ n1 ∧ Hid (∃ d, One wr B g d ∧ d.rd.length = n ∧ d.free ∧ d.most (k + 1)) ∧ Hid (Fr (fun _ => False) W wr)) (fun i _ => n1 - (intOf i).toNat)
  case atStart => exact ⟨0, rfl, Nat.zero_le _, Lib.hid ⟨_, hone.out.1, by simp [newD], ⟨rfl, rfl⟩, most_new n _⟩, Lib.hid hone.out.2⟩
  case round =>
    obtain ⟨k, rfl, hk, HD, HF⟩ := hrel
    clear hone
    by_cases hlt : k < n1
    · obtain ⟨b, off, rfl, hs0⟩ := HA.out.2.2.2.1 (by omega)
      obtain ⟨d, ho, hln, hfr, hmo⟩ := HD.out
      obtain ⟨x, hx⟩ : ∃ x, l[k]? = some x := ⟨_, List.getElem?_eq_getElem (by have := HA.out.1; omega)⟩
      have ha := (hs0 k x hx).new HF.out
      obtain ⟨z, hz⟩ : ∃ z, z = x.a := ⟨_, rfl⟩
      obtain ⟨s, hs⟩ : ∃ s, s = x.s := ⟨_, rfl⟩
      have HS : Hid (s.length = 128) := Lib.hid (hs ▸ ha.in_.sl)
      have hbB : b < B := by
        have h1 : b < W.heap.size := World.block_lt_of_cell? W _ (hs0 k x hx).c1
        have h2 := HP.out.2.2.1
        omega
      have HC : Hid (∀ w', Fr (fun b => B ≤ b) wr w' → w'.cell? ⟨b, off + k * 132 + 1, none⟩ = some (.int .i64 z) ∧ w'.rangeAt b (off + k * 132 + 3) (cellsB s)) := Lib.hid fun w' f => ⟨by rw [hz]; exact (f.cell (World.block_lt_of_cell? wr _ ha.c1) (fun q => by have q' : B ≤ b := q; omega)).trans ha.c1, by
        rw [hs]
        exact fun j v hv => (f.cell (World.block_lt_of_cell? wr _ (ha.rs j v hv)) (fun q => by have q' : B ≤ b := q; omega)).trans (ha.rs j v hv)⟩
      have HW : Hid (∀ w', Fr (fun _ => False) wr w' → Calls Try.prog 15 #[.pointer (some ⟨g, 0, none⟩), .int .i64 z, av s] w' fun e w'' => (∃ r, e = .returned (.int .i64 r)) ∧ One w'' B g (d.act z s) ∧ Fr (fun b => B ≤ b) w' w'') := Lib.hid fun w' f => one_act (ho.new f) z HS.out (fun i => Nat.le_trans (hmo i) (by omega))
      have HN := Lib.hid (And.intro (act_len d z s) (And.intro hln (And.intro (act_free hfr z s) (act_most hmo (by omega) z s))))
      have hu := Try.underlying34
      have hsz : (Try.prog.info? 34).map (·.size) = some (cellsB s).length := by rw [infoSector, cellsB_len, HS.out]
      have hi0 : (0 : Int) ≤ (k : Int) := by omega
      have hi1 : (k : Int) < (n1 : Int) := by omega
      clear ho hln hfr hmo hx ha hz hs hs0 HD hk
      go_wp2_with fail
      refine wp_region_held_drew (S := fun w' => Fr (fun b => B ≤ b) wr w') (by kernel_rfl) ((Fr.refl _ _).drew) (fun hS0 => ?_)
      refine anyH_take 0 60 (.pointer (some ⟨g, 0, none⟩)) rfl rfl (by kernel_rfl) (by kernel_rfl) (by kernel_rfl) (fun _ _ _ h => h) (.inl ⟨by rfl, fun w'' hS => by go_simp⟩) hS0 ?_
      (simp only [List.setIfInBounds_toArray, List.set_cons_zero, List.set_cons_succ])
      refine anyH_take 1 61 (.slice (some ⟨b, off, none⟩) n1 c1) rfl rfl (by kernel_rfl) (by kernel_rfl) (by kernel_rfl) (fun _ _ _ h => h) (.inl ⟨by rfl, fun w'' hS => by go_simp⟩) hS0 ?_
      (simp only [List.setIfInBounds_toArray, List.set_cons_zero, List.set_cons_succ])
      refine anyH_take 2 62 (.int .i64 (k : Nat)) rfl rfl (by kernel_rfl) (by kernel_rfl) (by kernel_rfl) (fun _ _ _ h => h) (.inl ⟨by rfl, fun w'' hS => by go_simp⟩) hS0 ?_
      (simp only [List.setIfInBounds_toArray, List.set_cons_zero, List.set_cons_succ])
      refine anyH_take 3 63 (.pointer (some ⟨b, off + k * 132, none⟩)) rfl rfl (by kernel_rfl) (by kernel_rfl) (by kernel_rfl) (fun _ _ _ h => h) (.inl ⟨by rfl, fun w'' hS => by go_simp⟩) hS0 ?_
      (simp only [List.setIfInBounds_toArray, List.set_cons_zero, List.set_cons_succ])
      refine anyH_take 4 64 (.pointer (some ⟨b, off + k * 132 + 1, none⟩)) rfl rfl (by kernel_rfl) (by kernel_rfl) (by kernel_rfl) (fun _ _ _ h => h) (.inl ⟨by rfl, fun w'' hS => by go_simp⟩) hS0 ?_
      (simp only [List.setIfInBounds_toArray, List.set_cons_zero, List.set_cons_succ])
      refine anyH_take 5 65 (.int .i64 z) rfl rfl (by kernel_rfl) (by kernel_rfl) (by kernel_rfl) (fun _ _ _ h => h) (.inl ⟨by rfl, fun w'' hS => by have q0 := (HC.out w'' hS).1; go_simp⟩) hS0 ?_
      (simp only [List.setIfInBounds_toArray, List.set_cons_zero, List.set_cons_succ])
      refine anyH_take 6 66 (.slice (some ⟨b, off, none⟩) n1 c1) rfl rfl (by kernel_rfl) (by kernel_rfl) (by kernel_rfl) (fun _ _ _ h => h) (.inl ⟨by rfl, fun w'' hS => by go_simp⟩) hS0 ?_
      (simp only [List.setIfInBounds_toArray, List.set_cons_zero, List.set_cons_succ])
      refine anyH_take 7 67 (.int .i64 (k : Nat)) rfl rfl (by kernel_rfl) (by kernel_rfl) (by kernel_rfl) (fun _ _ _ h => h) (.inl ⟨by rfl, fun w'' hS => by go_simp⟩) hS0 ?_
      (simp only [List.setIfInBounds_toArray, List.set_cons_zero, List.set_cons_succ])
      refine anyH_take 8 68 (.pointer (some ⟨b, off + k * 132, none⟩)) rfl rfl (by kernel_rfl) (by kernel_rfl) (by kernel_rfl) (fun _ _ _ h => h) (.inl ⟨by rfl, fun w'' hS => by go_simp⟩) hS0 ?_
      (simp only [List.setIfInBounds_toArray, List.set_cons_zero, List.set_cons_succ])
      refine anyH_take 9 69 (.pointer (some ⟨b, off + k * 132 + 3, none⟩)) rfl rfl (by kernel_rfl) (by kernel_rfl) (by kernel_rfl) (fun _ _ _ h => h) (.inl ⟨by rfl, fun w'' hS => by go_simp⟩) hS0 ?_
      (simp only [List.setIfInBounds_toArray, List.set_cons_zero, List.set_cons_succ])
      refine anyH_take 10 70 (.agg (cellsB s).toArray) rfl rfl (by kernel_rfl) (by kernel_rfl) (by kernel_rfl) (fun _ _ _ h => h) (yieldsIf_load_mid (by rfl) _ _ rfl _ _ rfl _ _ (fun w' f => (HC.out w' f).2) hu rfl hsz) hS0 ?_
      (simp only [List.setIfInBounds_toArray, List.set_cons_zero, List.set_cons_succ])
      refine anyH_enter 11 71 (f := 15) (args := #[.pointer (some ⟨g, 0, none⟩), .int .i64 z, av s]) (by kernel_rfl) rfl rfl (by rfl) (by go_simp) ?_
      refine (HW.out _ ((Fr.refl _ wr).drew)).mono ?_
      rintro e w6 ⟨⟨r, rfl⟩, ho6, f6⟩
      refine ⟨.int .i64 r, rfl, ((Fr.refl _ wr).drew).trans f6 (fun _ _ q => q), ?_⟩
      (simp only [List.setIfInBounds_toArray, List.set_cons_zero, List.set_cons_succ])
      have HF6 := Lib.hid (HF.out.drew.trans f6 (fun b hb q => by have := HP.out.2.2.1; omega))
      have HO6 := Lib.hid ho6
      refine wpAnyH_done (by kernel_rfl) ?_ _
      clear ho6 f6 hS0 HC HW hu hsz
      go_wp2_with fail
      exact ⟨⟨k + 1, by go_num, by omega, Lib.hid ⟨_, HO6.out, HN.out.1.trans HN.out.2.1, HN.out.2.2.1, HN.out.2.2.2⟩, HF6⟩, by simp [intOf]; omega⟩
    · obtain rfl : k = n1 := by omega
      obtain ⟨d, ho, hln, hfr, hmo⟩ := HD.out
      have HFl := one_flush ho (r := 0) (by rw [free_alive hfr]; rfl)
      have HL := Lib.hid (And.intro hln (And.intro hfr hmo))
      clear ho hln hfr hmo HD hlt hk
      go_wp2_with fail
      refine HFl.mono ?_
      rintro e w4 ⟨rfl, ho4, f4⟩
      have HF4 := Lib.hid (HF.out.trans f4 (fun b hb q => by have := HP.out.2.2.1; omega))
      have HCp := one_copy ho4 (DS.most.few (fun i => Nat.le_trans (flushed_most HL.out.2.2 i) (by omega)))
      clear ho4 f4 HFl HF
      go_wp2_with fail
      refine HCp.mono ?_
      rintro e w5 ⟨g2, o, rfl, hbo, has, f5⟩
      obtain ⟨r0, hr0⟩ : ∃ r0, r0 = d.rd := ⟨_, rfl⟩
      have hl0 : r0.length = n := by rw [hr0]; exact HL.out.1
      have hor : o.rd = r0 := by
        rw [has.rd, hr0]
        unfold DS.flushed
        split <;> rfl
      have hla : Lasts d.flushed r0 (more.take 0) := by rw [hr0, List.take_zero]; exact Lasts.new HL.out.2.1
      have H5 := Lib.hid (And.intro hbo (And.intro hla (And.intro (fun i => Nat.le_trans (flushed_most HL.out.2.2 i) (by omega) : d.flushed.most (0 + 60)) (HF4.out.trans f5 (fun _ _ q => q)))))
      have HR := Lib.hid (And.intro hl0 hor)
      clear hbo has f5 hr0 hl0 hor hla HCp HF4 HL
      go_wp2_with fail
      generalize wr = wq at *
      go_loopw [14] (fun i wr => ∃ k2 : Nat, i = .int .i64 k2 ∧ k2 ≤ n2 ∧ Hid (∃ d, Both wr B g g2 d o ∧ Lasts d r0 (more.take k2) ∧ d.most (k2 + 60)) ∧ Hid (Fr (fun _ => False) W wr)) (fun i _ => n2 - (intOf i).toNat)
      case atStart => exact ⟨0, rfl, Nat.zero_le _, Lib.hid ⟨_, H5.out.1, H5.out.2.1, H5.out.2.2.1⟩, Lib.hid H5.out.2.2.2⟩
      case round =>
        obtain ⟨k, rfl, hk, HD, HF⟩ := hrel
        clear H5
        by_cases hlt : k < n2
        · obtain ⟨b, off, rfl, hs0⟩ := HA.out.2.2.2.2 (by omega)
          obtain ⟨d, ho, hla, hmo⟩ := HD.out
          obtain ⟨x, hx⟩ : ∃ x, more[k]? = some x := ⟨_, List.getElem?_eq_getElem (by have := HA.out.2.1; omega)⟩
          have ha := (hs0 k x hx).new HF.out
          have htk : more.take (k + 1) = more.take k ++ [x] := by rw [List.take_add_one, hx]; rfl
          have hla2 := hla.act x
          rw [← htk] at hla2
          obtain ⟨z, hz⟩ : ∃ z, z = x.a := ⟨_, rfl⟩
          obtain ⟨s, hs⟩ : ∃ s, s = x.s := ⟨_, rfl⟩
          rw [← hz, ← hs] at hla2
          have HS : Hid (s.length = 128) := Lib.hid (hs ▸ ha.in_.sl)
          have hbB : b < B := by
            have h1 : b < W.heap.size := World.block_lt_of_cell? W _ (hs0 k x hx).c1
            have h2 := HP.out.2.2.1
            omega
          have HC : Hid (∀ w', Fr (fun b => B ≤ b) wr w' → w'.cell? ⟨b, off + k * 132 + 1, none⟩ = some (.int .i64 z) ∧ w'.rangeAt b (off + k * 132 + 3) (cellsB s)) := Lib.hid fun w' f => ⟨by rw [hz]; exact (f.cell (World.block_lt_of_cell? wr _ ha.c1) (fun q => by have q' : B ≤ b := q; omega)).trans ha.c1, by
            rw [hs]
            exact fun j v hv => (f.cell (World.block_lt_of_cell? wr _ (ha.rs j v hv)) (fun q => by have q' : B ≤ b := q; omega)).trans (ha.rs j v hv)⟩
          have HW : Hid (∀ w', Fr (fun _ => False) wr w' → Calls Try.prog 15 #[.pointer (some ⟨g, 0, none⟩), .int .i64 z, av s] w' fun e w'' => (∃ r, e = .returned (.int .i64 r)) ∧ Both w'' B g g2 (d.act z s) o ∧ Fr (fun b => B ≤ b) w' w'') := Lib.hid fun w' f => both_act (ho.new f) z HS.out (fun i => Nat.le_trans (hmo i) (by omega))
          have HN := Lib.hid (And.intro hla2 (act_most hmo (by omega) z s))
          have hu := Try.underlying34
          have hsz : (Try.prog.info? 34).map (·.size) = some (cellsB s).length := by rw [infoSector, cellsB_len, HS.out]
          have hi0 : (0 : Int) ≤ (k : Int) := by omega
          have hi1 : (k : Int) < (n2 : Int) := by omega
          clear ho hla hla2 htk hmo hx ha hz hs hs0 HD hk
          go_wp2_with fail
          refine wp_region_held_drew (S := fun w' => Fr (fun b => B ≤ b) wr w') (by kernel_rfl) ((Fr.refl _ _).drew) (fun hS0 => ?_)
          refine anyH_take 0 83 (.pointer (some ⟨g, 0, none⟩)) rfl rfl (by kernel_rfl) (by kernel_rfl) (by kernel_rfl) (fun _ _ _ h => h) (.inl ⟨by rfl, fun w'' hS => by go_simp⟩) hS0 ?_
          (simp only [List.setIfInBounds_toArray, List.set_cons_zero, List.set_cons_succ])
          refine anyH_take 1 84 (.slice (some ⟨b, off, none⟩) n2 c2) rfl rfl (by kernel_rfl) (by kernel_rfl) (by kernel_rfl) (fun _ _ _ h => h) (.inl ⟨by rfl, fun w'' hS => by go_simp⟩) hS0 ?_
          (simp only [List.setIfInBounds_toArray, List.set_cons_zero, List.set_cons_succ])
          refine anyH_take 2 85 (.int .i64 (k : Nat)) rfl rfl (by kernel_rfl) (by kernel_rfl) (by kernel_rfl) (fun _ _ _ h => h) (.inl ⟨by rfl, fun w'' hS => by go_simp⟩) hS0 ?_
          (simp only [List.setIfInBounds_toArray, List.set_cons_zero, List.set_cons_succ])
          refine anyH_take 3 86 (.pointer (some ⟨b, off + k * 132, none⟩)) rfl rfl (by kernel_rfl) (by kernel_rfl) (by kernel_rfl) (fun _ _ _ h => h) (.inl ⟨by rfl, fun w'' hS => by go_simp⟩) hS0 ?_
          (simp only [List.setIfInBounds_toArray, List.set_cons_zero, List.set_cons_succ])
          refine anyH_take 4 87 (.pointer (some ⟨b, off + k * 132 + 1, none⟩)) rfl rfl (by kernel_rfl) (by kernel_rfl) (by kernel_rfl) (fun _ _ _ h => h) (.inl ⟨by rfl, fun w'' hS => by go_simp⟩) hS0 ?_
          (simp only [List.setIfInBounds_toArray, List.set_cons_zero, List.set_cons_succ])
          refine anyH_take 5 88 (.int .i64 z) rfl rfl (by kernel_rfl) (by kernel_rfl) (by kernel_rfl) (fun _ _ _ h => h) (.inl ⟨by rfl, fun w'' hS => by have q0 := (HC.out w'' hS).1; go_simp⟩) hS0 ?_
          (simp only [List.setIfInBounds_toArray, List.set_cons_zero, List.set_cons_succ])
          refine anyH_take 6 89 (.slice (some ⟨b, off, none⟩) n2 c2) rfl rfl (by kernel_rfl) (by kernel_rfl) (by kernel_rfl) (fun _ _ _ h => h) (.inl ⟨by rfl, fun w'' hS => by go_simp⟩) hS0 ?_
          (simp only [List.setIfInBounds_toArray, List.set_cons_zero, List.set_cons_succ])
          refine anyH_take 7 90 (.int .i64 (k : Nat)) rfl rfl (by kernel_rfl) (by kernel_rfl) (by kernel_rfl) (fun _ _ _ h => h) (.inl ⟨by rfl, fun w'' hS => by go_simp⟩) hS0 ?_
          (simp only [List.setIfInBounds_toArray, List.set_cons_zero, List.set_cons_succ])
          refine anyH_take 8 91 (.pointer (some ⟨b, off + k * 132, none⟩)) rfl rfl (by kernel_rfl) (by kernel_rfl) (by kernel_rfl) (fun _ _ _ h => h) (.inl ⟨by rfl, fun w'' hS => by go_simp⟩) hS0 ?_
          (simp only [List.setIfInBounds_toArray, List.set_cons_zero, List.set_cons_succ])
          refine anyH_take 9 92 (.pointer (some ⟨b, off + k * 132 + 3, none⟩)) rfl rfl (by kernel_rfl) (by kernel_rfl) (by kernel_rfl) (fun _ _ _ h => h) (.inl ⟨by rfl, fun w'' hS => by go_simp⟩) hS0 ?_
          (simp only [List.setIfInBounds_toArray, List.set_cons_zero, List.set_cons_succ])
          refine anyH_take 10 93 (.agg (cellsB s).toArray) rfl rfl (by kernel_rfl) (by kernel_rfl) (by kernel_rfl) (fun _ _ _ h => h) (yieldsIf_load_mid (by rfl) _ _ rfl _ _ rfl _ _ (fun w' f => (HC.out w' f).2) hu rfl hsz) hS0 ?_
          (simp only [List.setIfInBounds_toArray, List.set_cons_zero, List.set_cons_succ])
          refine anyH_enter 11 94 (f := 15) (args := #[.pointer (some ⟨g, 0, none⟩), .int .i64 z, av s]) (by kernel_rfl) rfl rfl (by rfl) (by go_simp) ?_
          refine (HW.out _ ((Fr.refl _ wr).drew)).mono ?_
          rintro e w6 ⟨⟨r, rfl⟩, ho6, f6⟩
          refine ⟨.int .i64 r, rfl, ((Fr.refl _ wr).drew).trans f6 (fun _ _ q => q), ?_⟩
          (simp only [List.setIfInBounds_toArray, List.set_cons_zero, List.set_cons_succ])
          have HF6 := Lib.hid (HF.out.drew.trans f6 (fun b hb q => by have := HP.out.2.2.1; omega))
          have HO6 := Lib.hid ho6
          refine wpAnyH_done (by kernel_rfl) ?_ _
          clear ho6 f6 hS0 HC HW hu hsz
          have HM6 : Hid ((d.act z s).most (k + 1 + 60)) := Lib.hid (fun i => by have := HN.out.2 i; omega)
          go_wp2_with fail
          exact ⟨⟨k + 1, by go_num, by omega, Lib.hid ⟨_, HO6.out, HN.out.1, HM6.out⟩, HF6⟩, by simp [intOf]; omega⟩
        · obtain rfl : n2 = k := by omega
          obtain ⟨d, ho, hla, hmo⟩ := HD.out
          have htk : more.take n2 = more := List.take_of_length_le (by have := HA.out.2.1; omega)
          rw [htk] at hla
          have hpn : IntsAt wr (.slice Ap np cp) picks := by rw [HA.out.2.2.1]; exact HP.out.1.new HF.out
          have HCr := both_crash_in ho hpn (fun b hb hl => by have := HP.out.2.1 b (by rw [← HA.out.2.2.1]; exact hb) hl; have := HP.out.2.2.1; omega) (DS.most.few (fun i => Nat.le_trans (hmo i) (by omega)))
          have hall := fun i (hi : i < d.rd.length) => (ho.one.all hi).1
          have HL := Lib.hid (And.intro hla hall)
          clear ho hla hmo htk hall hpn HD hlt hk
          go_wp2_with fail
          refine HCr.mono ?_
          rintro e w7 ⟨rfl, hb7, f7⟩
          have HOp := one_open hb7.one
          rw [crash_openL] at HOp
          have HF7 := Lib.hid (HF.out.trans f7 (fun b hb q => by have := HP.out.2.2.1; omega))
          have HB7 := Lib.hid hb7
          clear hb7 f7 HCr HF
          go_wp2_with fail
          refine HOp.mono ?_
          rintro e w8 ⟨v8, rfl, hrow, f8⟩
          obtain ⟨A8, c8, rfl, _, _⟩ := own_slice hrow
          have HB8 := Lib.hid (And.intro (HB7.out.new f8) (HF7.out.trans f8 (fun _ _ q => q)))
          clear hrow f8 HOp HB7 HF7
          go_wp2_with fail
          generalize wr = wp at *
          obtain ⟨dc, hdc⟩ : ∃ dc, dc = d.crash picks := ⟨_, rfl⟩
          have HG : Hid (∀ i, i < n → ∃ a b, Cand (o.rd.getD i []) more i a ∧ Cand (o.rd.getD i []) more i b ∧ (dc.rd.getD i []).take 64 = a.take 64 ∧ (dc.rd.getD i []).drop 64 = b.drop 64) := Lib.hid fun i hi => by
            rw [hdc, HR.out.2]
            exact HL.out.1.got picks (by rw [HR.out.1]; exact hi) (HL.out.2 i (by rw [HL.out.1.len, HR.out.1]; exact hi))
          have HLn : Hid (dc.rd.length = n ∧ o.rd.length = n) := Lib.hid ⟨by rw [hdc, crash_len, HL.out.1.len, HR.out.1], by rw [HR.out.2, HR.out.1]⟩
          rw [← hdc] at HB8
          clear hdc HL HR
          go_loopw [15] (fun i wr => ∃ k3 : Nat, i = .int .i64 k3 ∧ k3 ≤ n ∧ Hid (Fr (fun _ => False) w8 wr)) (fun i _ => n - (intOf i).toNat)
          case atStart => exact ⟨0, rfl, Nat.zero_le _, Lib.hid (Fr.refl _ _)⟩
          case round =>
            obtain ⟨k3, rfl, hk3, HF3⟩ := hrel
            by_cases hlt : k3 < n
            · have hb3 := HB8.out.1.new HF3.out
              have HR1 := both_read hb3 (z := (k3 : Int)) (i := k3) rfl (by rw [HLn.out.1]; exact hlt)
              obtain ⟨s, hs⟩ : ∃ s, s = dc.rd.getD k3 [] := ⟨_, rfl⟩
              obtain ⟨x, hx⟩ : ∃ x, x = o.rd.getD k3 [] := ⟨_, rfl⟩
              have hsl : s.length = 128 := by rw [hs]; exact (hb3.one.all (by rw [HLn.out.1]; exact hlt)).2
              have hxl : x.length = 128 := by rw [hx]; exact (hb3.symm.one.all (by rw [HLn.out.2]; exact hlt)).2
              have HS : Hid (s.length = 128 ∧ x.length = 128 ∧ ∃ a b, Cand x more k3 a ∧ Cand x more k3 b ∧ s.take 64 = a.take 64 ∧ s.drop 64 = b.drop 64) := Lib.hid ⟨hsl, hxl, by rw [hs, hx]; exact HG.out k3 hlt⟩
              have HR2 : Hid (∀ w', Fr (fun _ => False) wr w' → Calls Try.prog 20 #[.pointer (some ⟨g2, 0, none⟩), .int .i64 k3] w' fun e w'' => e = .returned (.tuple #[av x, .int .i64 0]) ∧ Fr (fun _ => False) w' w'') := Lib.hid fun w' f => hx ▸ both_read (hb3.new f).symm (z := (k3 : Int)) (i := k3) rfl (by rw [HLn.out.2]; exact hlt)
              rw [← hs] at HR1
              have hi0 : (0 : Int) ≤ (k3 : Int) := by omega
              have hi1 : (k3 : Int) < (n : Int) := by omega
              clear hb3 hs hx hsl hxl hk3
              go_wp2_with fail
              refine HR1.mono ?_
              rintro e w10 ⟨rfl, f10⟩
              have HF10 := Lib.hid f10
              have hbn := Blk.new w10 34 (cellsB (nought 128)).toArray
              clear f10 HR1
              go_wp2_with (first
                | (refine wpList_zero rfl 34 rfl zeroSector ?_)
                | (refine wpList_store_mid rfl 34 _ _ rfl w10.heap.size 0 (cellsB s).toArray rfl rfl (hbn.there (by simp [cellsB_len, nought_len, HS.out.1])) (by rw [infoSector]; simp [cellsB_len, HS.out.1]) (all_oneCell_toArray (cellsB_one _)) ?_))
              have hb4 := hbn.over (o := 0) (m := s) (by rw [nought_len, HS.out.1]; omega)
              rw [patch_all (by rw [nought_len, HS.out.1])] at hb4
              have f4 : Fr (fun _ => False) w10 ((w10.alloc (.cells (cellsB (nought 128)).toArray 34)).setCells w10.heap.size 0 (cellsB s)) := Fr.setCells (.inr (Nat.le_refl _)) ((Fr.refl _ w10).alloc _)
              have HF11 := Lib.hid (HF10.out.trans f4 (fun _ _ q => q))
              generalize (w10.alloc (.cells (cellsB (nought 128)).toArray 34)).setCells w10.heap.size 0 (cellsB s) = w11 at *
              obtain ⟨bs, hbs⟩ : ∃ bs, bs = w10.heap.size := ⟨_, rfl⟩
              rw [← hbs] at hb4 ⊢
              have HB11 := Lib.hid hb4
              clear hbn f4 hb4 hbs HF10
              refine (HR2.out _ HF11.out).mono ?_
              rintro e w12 ⟨rfl, f12⟩
              have HF12 := Lib.hid (HF11.out.trans f12 (fun _ _ q => q))
              have HB12 := Lib.hid (HB11.out.keep f12 (fun q => q))
              have hbn := Blk.new w12 34 (cellsB (nought 128)).toArray
              clear f12 HR2 HB11 HF11
              go_wp2_with (first
                | (refine wpList_zero rfl 34 rfl zeroSector ?_)
                | (refine wpList_store_mid rfl 34 _ _ rfl w12.heap.size 0 (cellsB x).toArray rfl rfl (hbn.there (by simp [cellsB_len, nought_len, HS.out.2.1])) (by rw [infoSector]; simp [cellsB_len, HS.out.2.1]) (all_oneCell_toArray (cellsB_one _)) ?_))
              have hb4 := hbn.over (o := 0) (m := x) (by rw [nought_len, HS.out.2.1]; omega)
              rw [patch_all (by rw [nought_len, HS.out.2.1])] at hb4
              have f4 : Fr (fun _ => False) w12 ((w12.alloc (.cells (cellsB (nought 128)).toArray 34)).setCells w12.heap.size 0 (cellsB x)) := Fr.setCells (.inr (Nat.le_refl _)) ((Fr.refl _ w12).alloc _)
              have HF13 := Lib.hid (HF12.out.trans f4 (fun _ _ q => q))
              have hbs13 := HB12.out.keep f4 (fun q => q)
              generalize (w12.alloc (.cells (cellsB (nought 128)).toArray 34)).setCells w12.heap.size 0 (cellsB x) = w13 at *
              obtain ⟨bx, hbx⟩ : ∃ bx, bx = w12.heap.size := ⟨_, rfl⟩
              rw [← hbx] at hb4 ⊢
              have HB13 := Lib.hid (And.intro hbs13 hb4)
              clear hbn f4 hb4 hbx HF12 HB12 hbs13
              obtain ⟨S1, hS1⟩ : ∃ S1 : ByteArray, S1 = ⟨(s.take 64).toArray⟩ := ⟨_, rfl⟩
              obtain ⟨S2, hS2⟩ : ∃ S2 : ByteArray, S2 = ⟨(s.drop 64).toArray⟩ := ⟨_, rfl⟩
              obtain ⟨X1, hX1⟩ : ∃ X1 : ByteArray, X1 = ⟨(x.take 64).toArray⟩ := ⟨_, rfl⟩
              obtain ⟨X2, hX2⟩ : ∃ X2 : ByteArray, X2 = ⟨(x.drop 64).toArray⟩ := ⟨_, rfl⟩
              obtain ⟨fb, hfb⟩ : ∃ fb : Bool, fb = decide (s.take 64 = x.take 64) := ⟨_, rfl⟩
              obtain ⟨sb, hsb⟩ : ∃ sb : Bool, sb = decide (s.drop 64 = x.drop 64) := ⟨_, rfl⟩
              have HSt := Lib.hid (And.intro hS1 hS2)
              have HC : Hid (∀ w', Fr (fun _ => False) w13 w' → (convert 47 9 (.slice (some ⟨bs, 0, none⟩) 64 128)).run Try.prog w' = .ok (.string S1) w' ∧ (convert 47 9 (.slice (some ⟨bx, 0, none⟩) 64 128)).run Try.prog w' = .ok (.string X1) w' ∧
                  (convert 47 9 (.slice (some ⟨bs, 64, none⟩) 64 64)).run Try.prog w' = .ok (.string S2) w' ∧ (convert 47 9 (.slice (some ⟨bx, 64, none⟩) 64 64)).run Try.prog w' = .ok (.string X2) w') := Lib.hid fun w' f => by
                have q1 := HB13.out.1.keep f (fun q => q)
                have q2 := HB13.out.2.keep f (fun q => q)
                rw [hS1, hS2, hX1, hX2]
                exact ⟨str_first q1 HS.out.1, str_first q2 HS.out.2.1, str_second q1 HS.out.1, str_second q2 HS.out.2.1⟩
              have hE1 : (S1.toList == X1.toList) = fb := by rw [hS1, hX1, hfb, Bool.eq_iff_iff]; simp
              have hE2 : (S2.toList == X2.toList) = sb := by rw [hS2, hX2, hsb, Bool.eq_iff_iff]; simp
              have HFB : Hid (fb = fstB s x (more.take 0) k3 ∧ sb = sndB s x (more.take 0) k3) := Lib.hid ⟨by rw [hfb]; simp [fstB], by rw [hsb]; simp [sndB]⟩
              clear hS1 hS2 hX1 hX2 hfb hsb
              go_wp2_with fail
              refine wp_region_held_drew (S := fun w' => Fr (fun _ => False) w13 w') (by kernel_rfl) ((Fr.refl _ _).drew) (fun hS0 => ?_)
              refine anyH_take 0 128 (.slice (some ⟨bs, 0, none⟩) 64 128) rfl rfl (by kernel_rfl) (by kernel_rfl) (by kernel_rfl) (fun _ _ _ h => h) (.inl ⟨by rfl, fun w'' hS => by go_simp⟩) hS0 ?_
              (simp only [List.setIfInBounds_toArray, List.set_cons_zero, List.set_cons_succ])
              refine anyH_take 1 129 (.string S1) rfl rfl (by kernel_rfl) (by kernel_rfl) (by kernel_rfl) (fun _ _ _ h => h) (.inl ⟨by rfl, fun w'' hS => by have q0 := (HC.out w'' hS).1; go_simp⟩) hS0 ?_
              (simp only [List.setIfInBounds_toArray, List.set_cons_zero, List.set_cons_succ])
              refine anyH_take 2 130 (.slice (some ⟨bx, 0, none⟩) 64 128) rfl rfl (by kernel_rfl) (by kernel_rfl) (by kernel_rfl) (fun _ _ _ h => h) (.inl ⟨by rfl, fun w'' hS => by go_simp⟩) hS0 ?_
              (simp only [List.setIfInBounds_toArray, List.set_cons_zero, List.set_cons_succ])
              refine anyH_take 3 131 (.string X1) rfl rfl (by kernel_rfl) (by kernel_rfl) (by kernel_rfl) (fun _ _ _ h => h) (.inl ⟨by rfl, fun w'' hS => by have q0 := (HC.out w'' hS).2.1; go_simp⟩) hS0 ?_
              (simp only [List.setIfInBounds_toArray, List.set_cons_zero, List.set_cons_succ])
              refine anyH_take 4 132 (.bool fb) rfl rfl (by kernel_rfl) (by kernel_rfl) (by kernel_rfl) (fun _ _ _ h => h) (.inl ⟨by rfl, fun w'' hS => by go_simp⟩) hS0 ?_
              (simp only [List.setIfInBounds_toArray, List.set_cons_zero, List.set_cons_succ])
              refine anyH_take 5 133 (.slice (some ⟨bs, 64, none⟩) 64 64) rfl rfl (by kernel_rfl) (by kernel_rfl) (by kernel_rfl) (fun _ _ _ h => h) (.inl ⟨by rfl, fun w'' hS => by go_simp⟩) hS0 ?_
              (simp only [List.setIfInBounds_toArray, List.set_cons_zero, List.set_cons_succ])
              refine anyH_take 6 134 (.string S2) rfl rfl (by kernel_rfl) (by kernel_rfl) (by kernel_rfl) (fun _ _ _ h => h) (.inl ⟨by rfl, fun w'' hS => by have q0 := (HC.out w'' hS).2.2.1; go_simp⟩) hS0 ?_
              (simp only [List.setIfInBounds_toArray, List.set_cons_zero, List.set_cons_succ])
              refine anyH_take 7 135 (.slice (some ⟨bx, 64, none⟩) 64 64) rfl rfl (by kernel_rfl) (by kernel_rfl) (by kernel_rfl) (fun _ _ _ h => h) (.inl ⟨by rfl, fun w'' hS => by go_simp⟩) hS0 ?_
              (simp only [List.setIfInBounds_toArray, List.set_cons_zero, List.set_cons_succ])
              refine anyH_take 8 136 (.string X2) rfl rfl (by kernel_rfl) (by kernel_rfl) (by kernel_rfl) (fun _ _ _ h => h) (.inl ⟨by rfl, fun w'' hS => by have q0 := (HC.out w'' hS).2.2.2; go_simp⟩) hS0 ?_
              (simp only [List.setIfInBounds_toArray, List.set_cons_zero, List.set_cons_succ])
              refine anyH_take 9 137 (.bool sb) rfl rfl (by kernel_rfl) (by kernel_rfl) (by kernel_rfl) (fun _ _ _ h => h) (.inl ⟨by rfl, fun w'' hS => by go_simp⟩) hS0 ?_
              (simp only [List.setIfInBounds_toArray, List.set_cons_zero, List.set_cons_succ])
              refine anyH_take 10 20 (.bool fb) rfl rfl (by kernel_rfl) (by kernel_rfl) (by kernel_rfl) (fun _ _ _ h => h) (.inl ⟨by rfl, fun w'' hS => by go_simp⟩) hS0 ?_
              (simp only [List.setIfInBounds_toArray, List.set_cons_zero, List.set_cons_succ])
              refine anyH_take 11 21 (.bool sb) rfl rfl (by kernel_rfl) (by kernel_rfl) (by kernel_rfl) (fun _ _ _ h => h) (.inl ⟨by rfl, fun w'' hS => by go_simp⟩) hS0 ?_
              (simp only [List.setIfInBounds_toArray, List.set_cons_zero, List.set_cons_succ])
              refine wpAnyH_done (by kernel_rfl) ?_ _
              have HF14 := Lib.hid (HF13.out.drew)
              have HB14 : Hid (Blk w13.drew bs 34 (cellsB s).toArray) := Lib.hid HB13.out.1
              generalize w13.drew = w14 at *
              clear HC hE1 hE2 hS0 HB13 HF13
              go_wp2_with fail
              generalize wr = w3b at *
              go_loopw [20, 21, 22] (fun f g i wr => ∃ (fb sb : Bool) (k4 : Nat), f = .bool fb ∧ g = .bool sb ∧ i = .int .i64 k4 ∧ k4 ≤ n2 ∧ Hid (fb = fstB s x (more.take k4) k3 ∧ sb = sndB s x (more.take k4) k3) ∧ Hid (Fr (fun _ => False) w14 wr)) (fun _ _ i _ => n2 - (intOf i).toNat)
              case atStart => exact ⟨fb, sb, 0, rfl, rfl, rfl, Nat.zero_le _, HFB, Lib.hid (Fr.refl _ _)⟩
              case round =>
                obtain ⟨fb, sb, k, rfl, rfl, rfl, hk4, HFS, HF4⟩ := hrel
                clear HFB
                by_cases hlt4 : k < n2
                · obtain ⟨b, off, rfl, hs0⟩ := HA.out.2.2.2.2 (by omega)
                  obtain ⟨y, hy⟩ : ∃ y, more[k]? = some y := ⟨_, List.getElem?_eq_getElem (by have := HA.out.2.1; omega)⟩
                  have hfr : Fr (fun _ => False) W wr := ((HB8.out.2.trans HF3.out (fun _ _ q => q)).trans HF14.out (fun _ _ q => q)).trans HF4.out (fun _ _ q => q)
                  have ha := (hs0 k y hy).new hfr
                  have htk : more.take (k + 1) = more.take k ++ [y] := by rw [List.take_add_one, hy]; rfl
                  have hf := fstB_snoc s x (more.take k) y k3
                  have hg := sndB_snoc s x (more.take k) y k3
                  rw [← htk, ← HFS.out.1] at hf
                  rw [← htk, ← HFS.out.2] at hg
                  obtain ⟨z, hz⟩ : ∃ z, z = y.a := ⟨_, rfl⟩
                  obtain ⟨ys, hys⟩ : ∃ ys, ys = y.s := ⟨_, rfl⟩
                  rw [← hz, ← hys] at hf hg
                  have c1 := ha.c1
                  rw [← hz] at c1
                  have HY : Hid (ys.length = 128 ∧ wr.rangeAt b (off + k * 132 + 3) (cellsB ys) ∧ fstB s x (more.take (k + 1)) k3 = (fb || (decide (z = (k3 : Int)) && decide (s.take 64 = ys.take 64))) ∧ sndB s x (more.take (k + 1)) k3 = (sb || (decide (z = (k3 : Int)) && decide (s.drop 64 = ys.drop 64)))) := Lib.hid ⟨hys ▸ ha.in_.sl, hys ▸ ha.rs, hf, hg⟩
                  have hj0 : (0 : Int) ≤ (k : Int) := by omega
                  have hj1 : (k : Int) < (n2 : Int) := by omega
                  clear hs0 hy hfr ha htk hf hg hz hys hk4
                  by_cases hzi : z = (k3 : Int)
                  · have hze : (z == (k3 : Int)) = true := by simp [hzi]
                    have hbn := Blk.new wr 34 (cellsB (nought 128)).toArray
                    have HYe : Hid (fstB s x (more.take (k + 1)) k3 = (fb || decide (s.take 64 = ys.take 64)) ∧ sndB s x (more.take (k + 1)) k3 = (sb || decide (s.drop 64 = ys.drop 64))) := Lib.hid (by
                      have h1 := HY.out.2.2.1
                      have h2 := HY.out.2.2.2
                      rw [decide_eq_true hzi, Bool.true_and] at h1 h2
                      exact ⟨h1, h2⟩)
                    clear hzi
                    go_wp2_with (first
                      | (refine wpList_load_mid rfl 34 _ rfl b (off + k * 132 + 3) rfl (cellsB ys) _ HY.out.2.1 Try.underlying34 rfl (by rw [infoSector, cellsB_len, HY.out.1]) ?_)
                      | (refine wpList_zero rfl 34 rfl zeroSector ?_)
                      | (refine wpList_store_mid rfl 34 _ _ rfl wr.heap.size 0 (cellsB ys).toArray rfl rfl (hbn.there (by simp [cellsB_len, nought_len, HY.out.1])) (by rw [infoSector]; simp [cellsB_len, HY.out.1]) (all_oneCell_toArray (cellsB_one _)) ?_))
                    have hb4 := hbn.over (o := 0) (m := ys) (by rw [nought_len, HY.out.1]; omega)
                    rw [patch_all (by rw [nought_len, HY.out.1])] at hb4
                    have f4 : Fr (fun _ => False) wr ((wr.alloc (.cells (cellsB (nought 128)).toArray 34)).setCells wr.heap.size 0 (cellsB ys)) := Fr.setCells (.inr (Nat.le_refl _)) ((Fr.refl _ wr).alloc _)
                    have HF5 := Lib.hid (HF4.out.trans f4 (fun _ _ q => q))
                    generalize (wr.alloc (.cells (cellsB (nought 128)).toArray 34)).setCells wr.heap.size 0 (cellsB ys) = w15 at *
                    obtain ⟨by_, hby⟩ : ∃ by_, by_ = wr.heap.size := ⟨_, rfl⟩
                    rw [← hby] at hb4 ⊢
                    have HB15 := Lib.hid (And.intro (HB14.out.keep HF5.out (fun q => q)) hb4)
                    clear hbn f4 hb4 hby c1
                    obtain ⟨Y1, hY1⟩ : ∃ Y1 : ByteArray, Y1 = ⟨(ys.take 64).toArray⟩ := ⟨_, rfl⟩
                    obtain ⟨Y2, hY2⟩ : ∃ Y2 : ByteArray, Y2 = ⟨(ys.drop 64).toArray⟩ := ⟨_, rfl⟩
                    obtain ⟨f2, hf2⟩ : ∃ f2 : Bool, f2 = decide (s.take 64 = ys.take 64) := ⟨_, rfl⟩
                    obtain ⟨s2, hs2⟩ : ∃ s2 : Bool, s2 = decide (s.drop 64 = ys.drop 64) := ⟨_, rfl⟩
                    have HC : Hid (∀ w', Fr (fun _ => False) w15 w' → (convert 47 9 (.slice (some ⟨bs, 0, none⟩) 64 128)).run Try.prog w' = .ok (.string S1) w' ∧ (convert 47 9 (.slice (some ⟨by_, 0, none⟩) 64 128)).run Try.prog w' = .ok (.string Y1) w' ∧
                        (convert 47 9 (.slice (some ⟨bs, 64, none⟩) 64 64)).run Try.prog w' = .ok (.string S2) w' ∧ (convert 47 9 (.slice (some ⟨by_, 64, none⟩) 64 64)).run Try.prog w' = .ok (.string Y2) w') := Lib.hid fun w' f => by
                      have q1 := HB15.out.1.keep f (fun q => q)
                      have q2 := HB15.out.2.keep f (fun q => q)
                      rw [HSt.out.1, HSt.out.2, hY1, hY2]
                      exact ⟨str_first q1 HS.out.1, str_first q2 HY.out.1, str_second q1 HS.out.1, str_second q2 HY.out.1⟩
                    have hE1 : (S1.toList == Y1.toList) = f2 := by rw [HSt.out.1, hY1, hf2, Bool.eq_iff_iff]; simp
                    have hE2 : (S2.toList == Y2.toList) = s2 := by rw [HSt.out.2, hY2, hs2, Bool.eq_iff_iff]; simp
                    have HN : Hid (fstB s x (more.take (k + 1)) k3 = (fb || f2) ∧ sndB s x (more.take (k + 1)) k3 = (sb || s2)) := Lib.hid ⟨by rw [HYe.out.1, hf2], by rw [HYe.out.2, hs2]⟩
                    clear hY1 hY2 hf2 hs2 HYe HY
                    cases fb with
                    | true =>
                      go_wp2_with fail
                      simp only [Act.put, List.setIfInBounds_toArray, List.set_cons_zero, List.set_cons_succ]
                      refine wp_region_held_drew (S := fun w' => Fr (fun _ => False) w15 w') (by kernel_rfl) ((Fr.refl _ _).drew) (fun hS0 => ?_)
                      refine anyH_take 0 156 (.bool true) rfl rfl (by kernel_rfl) (by kernel_rfl) (by kernel_rfl) (fun _ _ _ h => h) (.inl ⟨by rfl, fun w'' hS => by go_simp⟩) hS0 ?_
                      (simp only [List.setIfInBounds_toArray, List.set_cons_zero, List.set_cons_succ])
                      refine anyH_take 1 157 (.bool true) rfl rfl (by kernel_rfl) (by kernel_rfl) (by kernel_rfl) (fun _ _ _ h => h) (.inl ⟨by rfl, fun w'' hS => by go_simp⟩) hS0 ?_
                      (simp only [List.setIfInBounds_toArray, List.set_cons_zero, List.set_cons_succ])
                      refine anyH_take 2 158 undef rfl rfl (by kernel_rfl) (by kernel_rfl) (by kernel_rfl) (fun _ _ _ h => h) (.inr ⟨by rfl, rfl⟩) hS0 ?_
                      (simp only [List.setIfInBounds_toArray, List.set_cons_zero, List.set_cons_succ])
                      refine anyH_take 3 159 undef rfl rfl (by kernel_rfl) (by kernel_rfl) (by kernel_rfl) (fun _ _ _ h => h) (.inr ⟨by rfl, rfl⟩) hS0 ?_
                      (simp only [List.setIfInBounds_toArray, List.set_cons_zero, List.set_cons_succ])
                      refine anyH_take 4 160 undef rfl rfl (by kernel_rfl) (by kernel_rfl) (by kernel_rfl) (fun _ _ _ h => h) (.inr ⟨by rfl, rfl⟩) hS0 ?_
                      (simp only [List.setIfInBounds_toArray, List.set_cons_zero, List.set_cons_succ])
                      refine anyH_take 5 161 undef rfl rfl (by kernel_rfl) (by kernel_rfl) (by kernel_rfl) (fun _ _ _ h => h) (.inr ⟨by rfl, rfl⟩) hS0 ?_
                      (simp only [List.setIfInBounds_toArray, List.set_cons_zero, List.set_cons_succ])
                      refine anyH_take 6 162 undef rfl rfl (by kernel_rfl) (by kernel_rfl) (by kernel_rfl) (fun _ _ _ h => h) (.inr ⟨by rfl, rfl⟩) hS0 ?_
                      (simp only [List.setIfInBounds_toArray, List.set_cons_zero, List.set_cons_succ])
                      refine anyH_take 7 163 (.bool true) rfl rfl (by kernel_rfl) (by kernel_rfl) (by kernel_rfl) (fun _ _ _ h => h) (.inl ⟨by rfl, fun w'' hS => by go_simp⟩) hS0 ?_
                      (simp only [List.setIfInBounds_toArray, List.set_cons_zero, List.set_cons_succ])
                      refine anyH_take 8 20 (.bool true) rfl rfl (by kernel_rfl) (by kernel_rfl) (by kernel_rfl) (fun _ _ _ h => h) (.inl ⟨by rfl, fun w'' hS => by go_simp⟩) hS0 ?_
                      (simp only [List.setIfInBounds_toArray, List.set_cons_zero, List.set_cons_succ])
                      refine wpAnyH_done (by kernel_rfl) ?_ _
                      have HF16 := Lib.hid (HF5.out.drew)
                      have HC16 : Hid (∀ w', Fr (fun _ => False) w15.drew w' → (convert 47 9 (.slice (some ⟨bs, 64, none⟩) 64 64)).run Try.prog w' = .ok (.string S2) w' ∧ (convert 47 9 (.slice (some ⟨by_, 64, none⟩) 64 64)).run Try.prog w' = .ok (.string Y2) w') := Lib.hid fun w' f => ⟨(HC.out w' (((Fr.refl _ w15).drew).trans f (fun _ _ q => q))).2.2.1, (HC.out w' (((Fr.refl _ w15).drew).trans f (fun _ _ q => q))).2.2.2⟩
                      generalize w15.drew = w16 at *
                      clear hS0
                      cases sb with
                      | true =>
                        go_wp2_with fail
                        refine wp_region_held_drew (S := fun w' => Fr (fun _ => False) w16 w') (by kernel_rfl) ((Fr.refl _ _).drew) (fun hS0 => ?_)
                        refine anyH_take 0 164 (.bool true) rfl rfl (by kernel_rfl) (by kernel_rfl) (by kernel_rfl) (fun _ _ _ h => h) (.inl ⟨by rfl, fun w'' hS => by go_simp⟩) hS0 ?_
                        (simp only [List.setIfInBounds_toArray, List.set_cons_zero, List.set_cons_succ])
                        refine anyH_take 1 165 (.bool true) rfl rfl (by kernel_rfl) (by kernel_rfl) (by kernel_rfl) (fun _ _ _ h => h) (.inl ⟨by rfl, fun w'' hS => by go_simp⟩) hS0 ?_
                        (simp only [List.setIfInBounds_toArray, List.set_cons_zero, List.set_cons_succ])
                        refine anyH_take 2 166 undef rfl rfl (by kernel_rfl) (by kernel_rfl) (by kernel_rfl) (fun _ _ _ h => h) (.inr ⟨by rfl, rfl⟩) hS0 ?_
                        (simp only [List.setIfInBounds_toArray, List.set_cons_zero, List.set_cons_succ])
                        refine anyH_take 3 167 undef rfl rfl (by kernel_rfl) (by kernel_rfl) (by kernel_rfl) (fun _ _ _ h => h) (.inr ⟨by rfl, rfl⟩) hS0 ?_
                        (simp only [List.setIfInBounds_toArray, List.set_cons_zero, List.set_cons_succ])
                        refine anyH_take 4 168 undef rfl rfl (by kernel_rfl) (by kernel_rfl) (by kernel_rfl) (fun _ _ _ h => h) (.inr ⟨by rfl, rfl⟩) hS0 ?_
                        (simp only [List.setIfInBounds_toArray, List.set_cons_zero, List.set_cons_succ])
                        refine anyH_take 5 169 undef rfl rfl (by kernel_rfl) (by kernel_rfl) (by kernel_rfl) (fun _ _ _ h => h) (.inr ⟨by rfl, rfl⟩) hS0 ?_
                        (simp only [List.setIfInBounds_toArray, List.set_cons_zero, List.set_cons_succ])
                        refine anyH_take 6 170 undef rfl rfl (by kernel_rfl) (by kernel_rfl) (by kernel_rfl) (fun _ _ _ h => h) (.inr ⟨by rfl, rfl⟩) hS0 ?_
                        (simp only [List.setIfInBounds_toArray, List.set_cons_zero, List.set_cons_succ])
                        refine anyH_take 7 171 (.bool true) rfl rfl (by kernel_rfl) (by kernel_rfl) (by kernel_rfl) (fun _ _ _ h => h) (.inl ⟨by rfl, fun w'' hS => by go_simp⟩) hS0 ?_
                        (simp only [List.setIfInBounds_toArray, List.set_cons_zero, List.set_cons_succ])
                        refine anyH_take 8 21 (.bool true) rfl rfl (by kernel_rfl) (by kernel_rfl) (by kernel_rfl) (fun _ _ _ h => h) (.inl ⟨by rfl, fun w'' hS => by go_simp⟩) hS0 ?_
                        (simp only [List.setIfInBounds_toArray, List.set_cons_zero, List.set_cons_succ])
                        refine wpAnyH_done (by kernel_rfl) ?_ _
                        have HF17 := Lib.hid (HF16.out.drew)
                        generalize w16.drew = w17 at *
                        have HN2 : Hid (true = fstB s x (more.take (k + 1)) k3 ∧ true = sndB s x (more.take (k + 1)) k3) := Lib.hid ⟨by rw [HN.out.1]; simp, by rw [HN.out.2]; simp⟩
                        clear hS0 HC HC16 hE1 hE2
                        go_wp2_with fail
                        exact ⟨⟨true, true, k + 1, rfl, rfl, by go_num, by omega, HN2, HF17⟩, by simp [intOf]; omega⟩
                      | false =>
                        go_wp2_with fail
                        refine wp_region_held_drew (S := fun w' => Fr (fun _ => False) w16 w') (by kernel_rfl) ((Fr.refl _ _).drew) (fun hS0 => ?_)
                        refine anyH_take 0 164 (.bool false) rfl rfl (by kernel_rfl) (by kernel_rfl) (by kernel_rfl) (fun _ _ _ h => h) (.inl ⟨by rfl, fun w'' hS => by go_simp⟩) hS0 ?_
                        (simp only [List.setIfInBounds_toArray, List.set_cons_zero, List.set_cons_succ])
                        refine anyH_take 1 165 (.bool false) rfl rfl (by kernel_rfl) (by kernel_rfl) (by kernel_rfl) (fun _ _ _ h => h) (.inl ⟨by rfl, fun w'' hS => by go_simp⟩) hS0 ?_
                        (simp only [List.setIfInBounds_toArray, List.set_cons_zero, List.set_cons_succ])
                        refine anyH_take 2 166 (.slice (some ⟨bs, 64, none⟩) 64 64) rfl rfl (by kernel_rfl) (by kernel_rfl) (by kernel_rfl) (fun _ _ _ h => h) (.inl ⟨by rfl, fun w'' hS => by go_simp⟩) hS0 ?_
                        (simp only [List.setIfInBounds_toArray, List.set_cons_zero, List.set_cons_succ])
                        refine anyH_take 3 167 (.string S2) rfl rfl (by kernel_rfl) (by kernel_rfl) (by kernel_rfl) (fun _ _ _ h => h) (.inl ⟨by rfl, fun w'' hS => by have q0 := (HC16.out w'' hS).1; go_simp⟩) hS0 ?_
                        (simp only [List.setIfInBounds_toArray, List.set_cons_zero, List.set_cons_succ])
                        refine anyH_take 4 168 (.slice (some ⟨by_, 64, none⟩) 64 64) rfl rfl (by kernel_rfl) (by kernel_rfl) (by kernel_rfl) (fun _ _ _ h => h) (.inl ⟨by rfl, fun w'' hS => by go_simp⟩) hS0 ?_
                        (simp only [List.setIfInBounds_toArray, List.set_cons_zero, List.set_cons_succ])
                        refine anyH_take 5 169 (.string Y2) rfl rfl (by kernel_rfl) (by kernel_rfl) (by kernel_rfl) (fun _ _ _ h => h) (.inl ⟨by rfl, fun w'' hS => by have q0 := (HC16.out w'' hS).2; go_simp⟩) hS0 ?_
                        (simp only [List.setIfInBounds_toArray, List.set_cons_zero, List.set_cons_succ])
                        refine anyH_take 6 170 (.bool s2) rfl rfl (by kernel_rfl) (by kernel_rfl) (by kernel_rfl) (fun _ _ _ h => h) (.inl ⟨by rfl, fun w'' hS => by go_simp⟩) hS0 ?_
                        (simp only [List.setIfInBounds_toArray, List.set_cons_zero, List.set_cons_succ])
                        refine anyH_take 7 171 (.bool s2) rfl rfl (by kernel_rfl) (by kernel_rfl) (by kernel_rfl) (fun _ _ _ h => h) (.inl ⟨by rfl, fun w'' hS => by go_simp⟩) hS0 ?_
                        (simp only [List.setIfInBounds_toArray, List.set_cons_zero, List.set_cons_succ])
                        refine anyH_take 8 21 (.bool s2) rfl rfl (by kernel_rfl) (by kernel_rfl) (by kernel_rfl) (fun _ _ _ h => h) (.inl ⟨by rfl, fun w'' hS => by go_simp⟩) hS0 ?_
                        (simp only [List.setIfInBounds_toArray, List.set_cons_zero, List.set_cons_succ])
                        refine wpAnyH_done (by kernel_rfl) ?_ _
                        have HF17 := Lib.hid (HF16.out.drew)
                        generalize w16.drew = w17 at *
                        have HN2 : Hid (true = fstB s x (more.take (k + 1)) k3 ∧ s2 = sndB s x (more.take (k + 1)) k3) := Lib.hid ⟨by rw [HN.out.1]; simp, by rw [HN.out.2]; simp⟩
                        clear hS0 HC HC16 hE1 hE2
                        go_wp2_with fail
                        exact ⟨⟨true, s2, k + 1, rfl, rfl, by go_num, by omega, HN2, HF17⟩, by simp [intOf]; omega⟩
                    | false =>
                      go_wp2_with fail
                      simp only [Act.put, List.setIfInBounds_toArray, List.set_cons_zero, List.set_cons_succ]
                      refine wp_region_held_drew (S := fun w' => Fr (fun _ => False) w15 w') (by kernel_rfl) ((Fr.refl _ _).drew) (fun hS0 => ?_)
                      refine anyH_take 0 156 (.bool false) rfl rfl (by kernel_rfl) (by kernel_rfl) (by kernel_rfl) (fun _ _ _ h => h) (.inl ⟨by rfl, fun w'' hS => by go_simp⟩) hS0 ?_
                      (simp only [List.setIfInBounds_toArray, List.set_cons_zero, List.set_cons_succ])
                      refine anyH_take 1 157 (.bool false) rfl rfl (by kernel_rfl) (by kernel_rfl) (by kernel_rfl) (fun _ _ _ h => h) (.inl ⟨by rfl, fun w'' hS => by go_simp⟩) hS0 ?_
                      (simp only [List.setIfInBounds_toArray, List.set_cons_zero, List.set_cons_succ])
                      refine anyH_take 2 158 (.slice (some ⟨bs, 0, none⟩) 64 128) rfl rfl (by kernel_rfl) (by kernel_rfl) (by kernel_rfl) (fun _ _ _ h => h) (.inl ⟨by rfl, fun w'' hS => by go_simp⟩) hS0 ?_
                      (simp only [List.setIfInBounds_toArray, List.set_cons_zero, List.set_cons_succ])
                      refine anyH_take 3 159 (.string S1) rfl rfl (by kernel_rfl) (by kernel_rfl) (by kernel_rfl) (fun _ _ _ h => h) (.inl ⟨by rfl, fun w'' hS => by have q0 := (HC.out w'' hS).1; go_simp⟩) hS0 ?_
                      (simp only [List.setIfInBounds_toArray, List.set_cons_zero, List.set_cons_succ])
                      refine anyH_take 4 160 (.slice (some ⟨by_, 0, none⟩) 64 128) rfl rfl (by kernel_rfl) (by kernel_rfl) (by kernel_rfl) (fun _ _ _ h => h) (.inl ⟨by rfl, fun w'' hS => by go_simp⟩) hS0 ?_
                      (simp only [List.setIfInBounds_toArray, List.set_cons_zero, List.set_cons_succ])
                      refine anyH_take 5 161 (.string Y1) rfl rfl (by kernel_rfl) (by kernel_rfl) (by kernel_rfl) (fun _ _ _ h => h) (.inl ⟨by rfl, fun w'' hS => by have q0 := (HC.out w'' hS).2.1; go_simp⟩) hS0 ?_
                      (simp only [List.setIfInBounds_toArray, List.set_cons_zero, List.set_cons_succ])
                      refine anyH_take 6 162 (.bool f2) rfl rfl (by kernel_rfl) (by kernel_rfl) (by kernel_rfl) (fun _ _ _ h => h) (.inl ⟨by rfl, fun w'' hS => by go_simp⟩) hS0 ?_
                      (simp only [List.setIfInBounds_toArray, List.set_cons_zero, List.set_cons_succ])
                      refine anyH_take 7 163 (.bool f2) rfl rfl (by kernel_rfl) (by kernel_rfl) (by kernel_rfl) (fun _ _ _ h => h) (.inl ⟨by rfl, fun w'' hS => by go_simp⟩) hS0 ?_
                      (simp only [List.setIfInBounds_toArray, List.set_cons_zero, List.set_cons_succ])
                      refine anyH_take 8 20 (.bool f2) rfl rfl (by kernel_rfl) (by kernel_rfl) (by kernel_rfl) (fun _ _ _ h => h) (.inl ⟨by rfl, fun w'' hS => by go_simp⟩) hS0 ?_
                      (simp only [List.setIfInBounds_toArray, List.set_cons_zero, List.set_cons_succ])
                      refine wpAnyH_done (by kernel_rfl) ?_ _
                      have HF16 := Lib.hid (HF5.out.drew)
                      have HC16 : Hid (∀ w', Fr (fun _ => False) w15.drew w' → (convert 47 9 (.slice (some ⟨bs, 64, none⟩) 64 64)).run Try.prog w' = .ok (.string S2) w' ∧ (convert 47 9 (.slice (some ⟨by_, 64, none⟩) 64 64)).run Try.prog w' = .ok (.string Y2) w') := Lib.hid fun w' f => ⟨(HC.out w' (((Fr.refl _ w15).drew).trans f (fun _ _ q => q))).2.2.1, (HC.out w' (((Fr.refl _ w15).drew).trans f (fun _ _ q => q))).2.2.2⟩
                      generalize w15.drew = w16 at *
                      clear hS0
                      cases sb with
                      | true =>
                        go_wp2_with fail
                        refine wp_region_held_drew (S := fun w' => Fr (fun _ => False) w16 w') (by kernel_rfl) ((Fr.refl _ _).drew) (fun hS0 => ?_)
                        refine anyH_take 0 164 (.bool true) rfl rfl (by kernel_rfl) (by kernel_rfl) (by kernel_rfl) (fun _ _ _ h => h) (.inl ⟨by rfl, fun w'' hS => by go_simp⟩) hS0 ?_
                        (simp only [List.setIfInBounds_toArray, List.set_cons_zero, List.set_cons_succ])
                        refine anyH_take 1 165 (.bool true) rfl rfl (by kernel_rfl) (by kernel_rfl) (by kernel_rfl) (fun _ _ _ h => h) (.inl ⟨by rfl, fun w'' hS => by go_simp⟩) hS0 ?_
                        (simp only [List.setIfInBounds_toArray, List.set_cons_zero, List.set_cons_succ])
                        refine anyH_take 2 166 undef rfl rfl (by kernel_rfl) (by kernel_rfl) (by kernel_rfl) (fun _ _ _ h => h) (.inr ⟨by rfl, rfl⟩) hS0 ?_
                        (simp only [List.setIfInBounds_toArray, List.set_cons_zero, List.set_cons_succ])
                        refine anyH_take 3 167 undef rfl rfl (by kernel_rfl) (by kernel_rfl) (by kernel_rfl) (fun _ _ _ h => h) (.inr ⟨by rfl, rfl⟩) hS0 ?_
                        (simp only [List.setIfInBounds_toArray, List.set_cons_zero, List.set_cons_succ])
                        refine anyH_take 4 168 undef rfl rfl (by kernel_rfl) (by kernel_rfl) (by kernel_rfl) (fun _ _ _ h => h) (.inr ⟨by rfl, rfl⟩) hS0 ?_
                        (simp only [List.setIfInBounds_toArray, List.set_cons_zero, List.set_cons_succ])
                        refine anyH_take 5 169 undef rfl rfl (by kernel_rfl) (by kernel_rfl) (by kernel_rfl) (fun _ _ _ h => h) (.inr ⟨by rfl, rfl⟩) hS0 ?_
                        (simp only [List.setIfInBounds_toArray, List.set_cons_zero, List.set_cons_succ])
                        refine anyH_take 6 170 undef rfl rfl (by kernel_rfl) (by kernel_rfl) (by kernel_rfl) (fun _ _ _ h => h) (.inr ⟨by rfl, rfl⟩) hS0 ?_
                        (simp only [List.setIfInBounds_toArray, List.set_cons_zero, List.set_cons_succ])
                        refine anyH_take 7 171 (.bool true) rfl rfl (by kernel_rfl) (by kernel_rfl) (by kernel_rfl) (fun _ _ _ h => h) (.inl ⟨by rfl, fun w'' hS => by go_simp⟩) hS0 ?_
                        (simp only [List.setIfInBounds_toArray, List.set_cons_zero, List.set_cons_succ])
                        refine anyH_take 8 21 (.bool true) rfl rfl (by kernel_rfl) (by kernel_rfl) (by kernel_rfl) (fun _ _ _ h => h) (.inl ⟨by rfl, fun w'' hS => by go_simp⟩) hS0 ?_
                        (simp only [List.setIfInBounds_toArray, List.set_cons_zero, List.set_cons_succ])
                        refine wpAnyH_done (by kernel_rfl) ?_ _
                        have HF17 := Lib.hid (HF16.out.drew)
                        generalize w16.drew = w17 at *
                        have HN2 : Hid (f2 = fstB s x (more.take (k + 1)) k3 ∧ true = sndB s x (more.take (k + 1)) k3) := Lib.hid ⟨by rw [HN.out.1]; simp, by rw [HN.out.2]; simp⟩
                        clear hS0 HC HC16 hE1 hE2
                        go_wp2_with fail
                        exact ⟨⟨f2, true, k + 1, rfl, rfl, by go_num, by omega, HN2, HF17⟩, by simp [intOf]; omega⟩
                      | false =>
                        go_wp2_with fail
                        refine wp_region_held_drew (S := fun w' => Fr (fun _ => False) w16 w') (by kernel_rfl) ((Fr.refl _ _).drew) (fun hS0 => ?_)
                        refine anyH_take 0 164 (.bool false) rfl rfl (by kernel_rfl) (by kernel_rfl) (by kernel_rfl) (fun _ _ _ h => h) (.inl ⟨by rfl, fun w'' hS => by go_simp⟩) hS0 ?_
                        (simp only [List.setIfInBounds_toArray, List.set_cons_zero, List.set_cons_succ])
                        refine anyH_take 1 165 (.bool false) rfl rfl (by kernel_rfl) (by kernel_rfl) (by kernel_rfl) (fun _ _ _ h => h) (.inl ⟨by rfl, fun w'' hS => by go_simp⟩) hS0 ?_
                        (simp only [List.setIfInBounds_toArray, List.set_cons_zero, List.set_cons_succ])
                        refine anyH_take 2 166 (.slice (some ⟨bs, 64, none⟩) 64 64) rfl rfl (by kernel_rfl) (by kernel_rfl) (by kernel_rfl) (fun _ _ _ h => h) (.inl ⟨by rfl, fun w'' hS => by go_simp⟩) hS0 ?_
                        (simp only [List.setIfInBounds_toArray, List.set_cons_zero, List.set_cons_succ])
                        refine anyH_take 3 167 (.string S2) rfl rfl (by kernel_rfl) (by kernel_rfl) (by kernel_rfl) (fun _ _ _ h => h) (.inl ⟨by rfl, fun w'' hS => by have q0 := (HC16.out w'' hS).1; go_simp⟩) hS0 ?_
                        (simp only [List.setIfInBounds_toArray, List.set_cons_zero, List.set_cons_succ])
                        refine anyH_take 4 168 (.slice (some ⟨by_, 64, none⟩) 64 64) rfl rfl (by kernel_rfl) (by kernel_rfl) (by kernel_rfl) (fun _ _ _ h => h) (.inl ⟨by rfl, fun w'' hS => by go_simp⟩) hS0 ?_
                        (simp only [List.setIfInBounds_toArray, List.set_cons_zero, List.set_cons_succ])
                        refine anyH_take 5 169 (.string Y2) rfl rfl (by kernel_rfl) (by kernel_rfl) (by kernel_rfl) (fun _ _ _ h => h) (.inl ⟨by rfl, fun w'' hS => by have q0 := (HC16.out w'' hS).2; go_simp⟩) hS0 ?_
                        (simp only [List.setIfInBounds_toArray, List.set_cons_zero, List.set_cons_succ])
                        refine anyH_take 6 170 (.bool s2) rfl rfl (by kernel_rfl) (by kernel_rfl) (by kernel_rfl) (fun _ _ _ h => h) (.inl ⟨by rfl, fun w'' hS => by go_simp⟩) hS0 ?_
                        (simp only [List.setIfInBounds_toArray, List.set_cons_zero, List.set_cons_succ])
                        refine anyH_take 7 171 (.bool s2) rfl rfl (by kernel_rfl) (by kernel_rfl) (by kernel_rfl) (fun _ _ _ h => h) (.inl ⟨by rfl, fun w'' hS => by go_simp⟩) hS0 ?_
                        (simp only [List.setIfInBounds_toArray, List.set_cons_zero, List.set_cons_succ])
                        refine anyH_take 8 21 (.bool s2) rfl rfl (by kernel_rfl) (by kernel_rfl) (by kernel_rfl) (fun _ _ _ h => h) (.inl ⟨by rfl, fun w'' hS => by go_simp⟩) hS0 ?_
                        (simp only [List.setIfInBounds_toArray, List.set_cons_zero, List.set_cons_succ])
                        refine wpAnyH_done (by kernel_rfl) ?_ _
                        have HF17 := Lib.hid (HF16.out.drew)
                        generalize w16.drew = w17 at *
                        have HN2 : Hid (f2 = fstB s x (more.take (k + 1)) k3 ∧ s2 = sndB s x (more.take (k + 1)) k3) := Lib.hid ⟨by rw [HN.out.1]; simp, by rw [HN.out.2]; simp⟩
                        clear hS0 HC HC16 hE1 hE2
                        go_wp2_with fail
                        exact ⟨⟨f2, s2, k + 1, rfl, rfl, by go_num, by omega, HN2, HF17⟩, by simp [intOf]; omega⟩
                  · have hze : (z == (k3 : Int)) = false := by simp [hzi]
                    have HN2 : Hid (fb = fstB s x (more.take (k + 1)) k3 ∧ sb = sndB s x (more.take (k + 1)) k3) := Lib.hid (by
                      have h1 := HY.out.2.2.1
                      have h2 := HY.out.2.2.2
                      rw [decide_eq_false hzi, Bool.false_and, Bool.or_false] at h1 h2
                      exact ⟨h1.symm, h2.symm⟩)
                    clear hzi
                    go_wp2_with fail
                    exact ⟨⟨fb, sb, k + 1, rfl, rfl, by go_num, by omega, HN2, HF4⟩, by simp [intOf]; omega⟩
                · obtain rfl : k = n2 := by omega
                  have hfs : fb = true ∧ sb = true := by
                    obtain ⟨a, c, ca, cc, e1, e2⟩ := HS.out.2.2
                    have htk : more.take k = more := List.take_of_length_le (by have := HA.out.2.1; omega)
                    rw [HFS.out.1, HFS.out.2, htk]
                    exact ⟨fstB_true ca e1, sndB_true cc e2⟩
                  obtain ⟨rfl, rfl⟩ := hfs
                  have HF18 := Lib.hid ((HF3.out.trans HF14.out (fun _ _ q => q)).trans HF4.out (fun _ _ q => q))
                  clear hlt4 hk4
                  go_wp2_with fail
                  exact ⟨⟨k3 + 1, by go_num, by omega, HF18⟩, by simp [intOf]; omega⟩
            · obtain rfl : k3 = n := by omega
              have HF9 := Lib.hid (HB8.out.2.trans HF3.out (fun _ _ q => q))
              clear hlt hk3
              go_wp2_with fail
              refine (known_any _).mono ?_
              rintro e w20 ⟨rfl, f20⟩
              have HF20 := Lib.hid (HF9.out.trans f20 (fun _ _ q => q))
              clear f20
              go_wp2_with fail
              go_ret
              exact ⟨rfl, HF20.out⟩
end Go.Proofs.Ytcpbhpddemflcaa
