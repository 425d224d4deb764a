/- couponlaw13: simple, known. -/
import Derived.Test.YtmopkfjnjbimnaaKqe
namespace Go.Proofs.Ytmopkfjnjbimnaa
open Go.RowKit

def simT : TkD := ⟨1230000000014, ⟨#[65, 66, 67, 50, 51, 52]⟩, 5, [⟨7, 9, 1000, 1, 0, 0⟩], [], 0, 1230000000014, 1230000000014, 0, 0, []⟩
def simT1 : TkD := ⟨1230000000014, ⟨#[65, 66, 67, 50, 51, 52]⟩, 5, [⟨7, 9, 1000, 9, 126, 0⟩], [], 0, 1230000000014, 1230000000014, 0, 0, [⟨9, 1, 1, 9⟩]⟩
def simT2 : TkD := ⟨1230000000014, ⟨#[65, 66, 67, 50, 51, 52]⟩, 5, [⟨7, 9, 1000, 1, 0, 0⟩], [], 0, 1230000000014, 1230000000014, 0, 0, [⟨9, 1, 1, 9⟩, ⟨9, 1, 9, 1⟩]⟩
theorem sim_may : mayT simT = true := by decide +kernel
theorem sim_len : (bytesT simT).length = 79 := by decide +kernel
theorem sim_e1 : chgE simT 1 9 9 124 = 2 := by decide +kernel
theorem sim_t1 : chgT simT 1 9 9 124 = noTk := by unfold chgT; rw [sim_e1]; rfl
theorem sim_e2 : chgE simT 1 9 9 126 = 0 := by decide +kernel
theorem sim_t2 : chgT simT 1 9 9 126 = simT1 := by unfold chgT; rw [if_pos sim_e2]; rfl
theorem sim_e3 : chgE simT1 1 9 1 0 = 0 := by decide +kernel
theorem sim_t3 : chgT simT1 1 9 1 0 = simT2 := by unfold chgT; rw [if_pos sim_e3]; rfl
theorem sim_much : muchT simT = false := by decide +kernel
theorem sim_much1 : muchT simT1 = false := by decide +kernel
theorem sim_ok : TkOk simT where
  num := by unfold u64B simT; decide
  loc := by decide
  iss := by unfold i64B simT; decide
  cps := fun c hc => by
    simp only [simT, List.mem_cons, List.not_mem_nil, or_false] at hc
    subst hc
    constructor <;> first | (unfold i64B; decide) | (unfold u64B; decide)
  txs := fun x hx => by cases hx
  prv := by unfold u64B simT; decide
  org := by unfold u64B simT; decide
  fst := by unfold u64B simT; decide
  vou := by unfold i64B simT; decide
  pos := by unfold i64B simT; decide
  his := fun x hx => by
    cases hx
theorem sim_ok1 : TkOk simT1 where
  num := by unfold u64B simT1; decide
  loc := by decide
  iss := by unfold i64B simT1; decide
  cps := fun c hc => by
    simp only [simT1, List.mem_cons, List.not_mem_nil, or_false] at hc
    subst hc
    constructor <;> first | (unfold i64B; decide) | (unfold u64B; decide)
  txs := fun x hx => by cases hx
  prv := by unfold u64B simT1; decide
  org := by unfold u64B simT1; decide
  fst := by unfold u64B simT1; decide
  vou := by unfold i64B simT1; decide
  pos := by unfold i64B simT1; decide
  his := fun x hx => by
    simp only [simT1, List.mem_cons, List.not_mem_nil, or_false] at hx
    subst hx
    constructor <;> (unfold i64B; decide)
set_option maxRecDepth 100000 in
set_option maxHeartbeats 4000000 in
theorem simple_any (w : World) : Calls Try.prog 28 #[] w fun e w' => ∃ v, e = .returned v ∧ TkO w' w.heap.size v simT ∧ Fr (fun _ => False) w w' := by
  obtain ⟨W0, hW0⟩ : ∃ W, W = w.alloc (.cells #[.int .u64 0, .string ⟨#[]⟩, .int .i64 0, .slice none 0 0, .slice none 0 0, .int .u64 0, .int .u64 0, .int .u64 0, .int .i64 0, .int .i64 0, .slice none 0 0] 27) := ⟨_, rfl⟩
  have HB : Hid (Fr (fun _ => False) w W0 ∧ Blk W0 w.heap.size 27 #[.int .u64 0, .string ⟨#[]⟩, .int .i64 0, .slice none 0 0, .slice none 0 0, .int .u64 0, .int .u64 0, .int .u64 0, .int .i64 0, .int .i64 0, .slice none 0 0] ∧ W0.heap.size = w.heap.size + 1) := Lib.hid (by rw [hW0]; exact ⟨(Fr.refl _ w).alloc _, Blk.new w _ _, Array.size_push _⟩)
  have HQ := Lib.hid hW0
  have hmk := fun W => rmake_any 123 1 W
  rw [show makeN 123 1 = 1230000000014 from by decide +kernel, show mayCS 123 1 = true from by decide +kernel] at hmk
  have HM := Lib.hid hmk
  clear hW0 hmk
  go_enter Try.func28, Try.ntmps28
  go_upto_region 1 with fail
  rw [← HQ.out]
  clear HQ
  go_wp2_with fail
  refine (HM.out _).mono ?_
  rintro e w1 ⟨rfl, f1⟩
  have HF1 := Lib.hid (HB.out.1.trans f1 (fun _ _ q => q))
  have HZ1 := Lib.hid (HB.out.2.1.keep f1 (fun q => q))
  have HS1 := Lib.hid f1.size
  clear f1 HM
  obtain ⟨gC, hgC⟩ : ∃ g, g = w1.heap.size := ⟨_, rfl⟩
  obtain ⟨W2, hW2⟩ : ∃ W, W = w1.alloc (.cells #[.int .i64 7, .int .i64 9, .int .i64 1000, .int .i64 1, .int .i64 0, .int .u64 0] 49) := ⟨_, rfl⟩
  have fa : Fr (fun _ => False) w1 W2 := by rw [hW2]; exact (Fr.refl _ w1).alloc _
  have HZ2 : Hid (Blk (w1.alloc (.cells #[.int .i64 7, .int .i64 9, .int .i64 1000, .int .i64 1, .int .i64 0, .int .u64 0] 49)) w.heap.size 27 #[.int .u64 0, .string ⟨#[]⟩, .int .i64 0, .slice none 0 0, .slice none 0 0, .int .u64 0, .int .u64 0, .int .u64 0, .int .i64 0, .int .i64 0, .slice none 0 0]) := Lib.hid (by rw [← hW2]; exact HZ1.out.keep fa (fun q => q))
  have ho : RwO W2 w.heap.size 49 6 cpC (.slice (some ⟨gC, 0, none⟩) 1 1) simT.cps := by
    refine ⟨rfl, .inr ⟨w1.heap.size, 1, #[.int .i64 7, .int .i64 9, .int .i64 1000, .int .i64 1, .int .i64 0, .int .u64 0], by rw [hgC]; rfl, HF1.out.size, by rw [hW2]; exact Blk.new w1 _ _, Nat.le_refl _, by decide, rfl, rfl⟩⟩
  have HO := Lib.hid ho
  have HF2 := Lib.hid (HF1.out.trans fa (fun _ _ q => q))
  have HX7 := Lib.hid (fr_cells (F := fun _ => False) (a := w) (b := w.heap.size) (.inr (Nat.le_refl _)) (tkA simT (.slice (some ⟨gC, 0, none⟩) 1 1) (.slice none 0 0) (.slice none 0 0)).toList 0 W2 HF2.out)
  have HX8 := Lib.hid (fr_cells (F := fun b => b = w.heap.size) (a := W2) (b := w.heap.size) (.inl rfl) (tkA simT (.slice (some ⟨gC, 0, none⟩) 1 1) (.slice none 0 0) (.slice none 0 0)).toList 0 W2 (Fr.refl _ _))
  have HG : Hid (w.heap.size < gC) := Lib.hid (by rw [hgC]; exact HZ1.out.lt)
  rw [hW2] at HX7 HX8 HO
  rw [hgC] at *
  clear fa ho HF2 hW2 hgC
  go_wp2_with (refine wpList_store_mid rfl 27 (.tmp 0) (.tmp 12) rfl w.heap.size 0 (tkA simT (.slice (some ⟨w1.heap.size, 0, none⟩) 1 1) (.slice none 0 0) (.slice none 0 0)) rfl rfl (blk_there HZ2.out (Nat.le_refl 11)) (infoTk' _ _ _ _) (tkA_one _ _ _ _ _ _ _ _ _ _) ?_)
  refine bodyPost_ret (results_cell_row rfl _ _ w.heap.size 27 (tkA simT (.slice (some ⟨w1.heap.size, 0, none⟩) 1 1) (.slice none 0 0) (.slice none 0 0)) (0, 0) _ rfl (blk_row HZ2.out rfl) Try.underlying27 rfl (infoTk' _ _ _ _)) rfl ?_
  refine ⟨_, rfl, ⟨_, _, _, rfl, HO.out.keep HX8.out (fun b hb q => by injection hb with hb; have h7 : w1.heap.size = b := hb; have h6 : b = w.heap.size := q; have := HG.out; omega), RwO.nil _ _ _ _ _, RwO.nil _ _ _ _ _⟩, HX7.out⟩
set_option maxRecDepth 100000 in
set_option maxHeartbeats 8000000 in
theorem known_any (w : World) : Calls Try.prog 9 #[] w fun e w' => e = .returned (.bool true) ∧ Fr (fun _ => False) w w' := by
  have HSI := Lib.hid (fun W => simple_any W)
  have SIML : Hid ((bytesR simT).length = 79) := Lib.hid (by unfold bytesR; rw [if_pos sim_may]; exact sim_len)
  have HBY := Lib.hid (fun W v (h : TkV W v simT) => pbytes_any h sim_ok (by decide) (by decide) (by decide) (by decide))
  rw [show bytesE simT = 0 from by unfold bytesE; rw [if_pos sim_may]] at HBY
  have HC1 := Lib.hid (fun W v (h : TkV W v simT) => pchange_any h sim_ok sim_much 1 9 9 (by unfold i64B; decide) 124 (by unfold u64B; decide))
  rw [sim_e1, sim_t1] at HC1
  have HC2 := Lib.hid (fun W v (h : TkV W v simT) => pchange_any h sim_ok sim_much 1 9 9 (by unfold i64B; decide) 126 (by unfold u64B; decide))
  rw [sim_e2, sim_t2] at HC2
  have HC3 := Lib.hid (fun W v (h : TkV W v simT1) => pchange_any h sim_ok1 sim_much1 1 9 1 (by unfold i64B; decide) 0 (by unfold u64B; decide))
  rw [sim_e3, sim_t3] at HC3
  go_enter Try.func9, Try.ntmps9
  go_wp2_with fail
  refine (HSI.out _).mono ?_
  rintro e w1 ⟨v1, rfl, ⟨sa1, sa2, sa3, rfl, oa1, oa2, oa3⟩, f1⟩
  obtain ⟨Aa1, na1, ca1, eva1⟩ : ∃ A n c, sa1 = .slice A n c := by obtain ⟨A, c, e, _⟩ := own_slice oa1; exact ⟨A, _, c, e⟩
  obtain ⟨Aa2, na2, ca2, eva2⟩ : ∃ A n c, sa2 = .slice A n c := by obtain ⟨A, c, e, _⟩ := own_slice oa2; exact ⟨A, _, c, e⟩
  obtain ⟨Aa3, na3, ca3, eva3⟩ : ∃ A n c, sa3 = .slice A n c := by obtain ⟨A, c, e, _⟩ := own_slice oa3; exact ⟨A, _, c, e⟩
  subst eva1 eva2 eva3
  have HOA := Lib.hid (And.intro oa1 (And.intro oa2 oa3))
  have HFw1 := Lib.hid f1
  clear oa1 oa2 oa3 f1 HSI
  go_upto_region 2 with fail
  obtain ⟨W2, hW2⟩ : ∃ W, W = w1.alloc (.cells (tkA simT (.slice Aa1 na1 ca1) (.slice Aa2 na2 ca2) (.slice Aa3 na3 ca3)) 27) := ⟨_, rfl⟩
  obtain ⟨gA, hgA⟩ : ∃ g, g = w1.heap.size := ⟨_, rfl⟩
  have HW2 : Hid (Fr (fun _ => False) w1 W2 ∧ Blk W2 gA 27 (tkA simT (.slice Aa1 na1 ca1) (.slice Aa2 na2 ca2) (.slice Aa3 na3 ca3))) := Lib.hid (by rw [hW2, hgA]; exact ⟨(Fr.refl _ w1).alloc _, Blk.new w1 _ _⟩)
  have HFW2 := Lib.hid (HFw1.out.trans HW2.out.1 (fun _ _ q => q))
  rw [← hW2, ← hgA]
  clear hW2 hgA
  have HVA : Hid (∀ W, Fr (fun _ => False) W2 W → TkV W (tkC simT (.slice Aa1 na1 ca1) (.slice Aa2 na2 ca2) (.slice Aa3 na3 ca3)) simT ∧ Blk W gA 27 (tkA simT (.slice Aa1 na1 ca1) (.slice Aa2 na2 ca2) (.slice Aa3 na3 ca3))) := Lib.hid (fun W f => ⟨⟨_, _, _, rfl, ((HOA.out.1.keep0 HW2.out.1).keep0 f).rd cpC_len, ((HOA.out.2.1.keep0 HW2.out.1).keep0 f).rd txC_len, ((HOA.out.2.2.keep0 HW2.out.1).keep0 f).rd evC_len⟩, HW2.out.2.keep f (fun q => q)⟩)
  have HR0 := Lib.hid (Fr.refl (fun _ => False) W2)
  have HL := Lib.hid (HVA.out _ HR0.out).2
  go_wp2_with (refine wpList_load_mid rfl 27 (.tmp 1) rfl gA 0 rfl (tkA simT (.slice Aa1 na1 ca1) (.slice Aa2 na2 ca2) (.slice Aa3 na3 ca3)).toList _ (blk_range HL.out) Try.underlying27 rfl infoTk ?_)
  clear HL
  refine (HBY.out _ _ (HVA.out _ HR0.out).1).mono ?_
  rintro e w3 ⟨x, rfl, hx, f3⟩
  obtain ⟨Ax, cx, ex⟩ : ∃ A c, x = .slice A 79 c := by
    obtain ⟨A, c, e, _⟩ := own_slice hx
    exact ⟨A, c, by rw [e, SIML.out]⟩
  subst ex
  have HF3 := Lib.hid f3
  clear hx f3 HBY
  have HL := Lib.hid (HVA.out _ HF3.out).2
  go_upto_region 3 with fail
  go_wp2_with (refine wpList_load_mid rfl 27 (.tmp 1) rfl gA 0 rfl (tkA simT (.slice Aa1 na1 ca1) (.slice Aa2 na2 ca2) (.slice Aa3 na3 ca3)).toList _ (blk_range HL.out) Try.underlying27 rfl infoTk ?_)
  clear HL
  refine (HC1.out _ _ (HVA.out _ HF3.out).1).mono ?_
  rintro e w4 ⟨v4, rfl, ⟨sb1, sb2, sb3, rfl, ob1, ob2, ob3⟩, f4⟩
  obtain ⟨Ab1, cb1, evb1⟩ : ∃ A c, sb1 = .slice A 0 c := by obtain ⟨A, c, e, _⟩ := own_slice ob1; exact ⟨A, c, e⟩
  obtain ⟨Ab2, nb2, cb2, evb2⟩ : ∃ A n c, sb2 = .slice A n c := by obtain ⟨A, c, e, _⟩ := own_slice ob2; exact ⟨A, _, c, e⟩
  obtain ⟨Ab3, nb3, cb3, evb3⟩ : ∃ A n c, sb3 = .slice A n c := by obtain ⟨A, c, e, _⟩ := own_slice ob3; exact ⟨A, _, c, e⟩
  subst evb1 evb2 evb3
  have HF4 := Lib.hid (HF3.out.trans f4 (fun _ _ q => q))
  clear f4 ob1 ob2 ob3 HC1
  go_upto_region 4 with fail
  obtain ⟨W5, hW5⟩ : ∃ W, W = w4.alloc (.cells (tkA noTk (.slice Ab1 0 cb1) (.slice Ab2 nb2 cb2) (.slice Ab3 nb3 cb3)) 27) := ⟨_, rfl⟩
  obtain ⟨gB, hgB⟩ : ∃ g, g = w4.heap.size := ⟨_, rfl⟩
  have HW5 : Hid (Fr (fun _ => False) w4 W5 ∧ Blk W5 gB 27 (tkA noTk (.slice Ab1 0 cb1) (.slice Ab2 nb2 cb2) (.slice Ab3 nb3 cb3))) := Lib.hid (by rw [hW5, hgB]; exact ⟨(Fr.refl _ w4).alloc _, Blk.new w4 _ _⟩)
  have HFW5 := Lib.hid (HF4.out.trans HW5.out.1 (fun _ _ q => q))
  rw [← hW5, ← hgB]
  clear hW5 hgB
  have hb3 : W5.cell? ⟨gB, 3, none⟩ = some (.slice Ab1 0 cb1) := cp_cell HW5.out.2 3 rfl
  have HL := Lib.hid (HVA.out _ HFW5.out).2
  go_wp2_with (refine wpList_load_mid rfl 27 (.tmp 1) rfl gA 0 rfl (tkA simT (.slice Aa1 na1 ca1) (.slice Aa2 na2 ca2) (.slice Aa3 na3 ca3)).toList _ (blk_range HL.out) Try.underlying27 rfl infoTk ?_)
  clear HL hb3
  refine (HC2.out _ _ (HVA.out _ HFW5.out).1).mono ?_
  rintro e w6 ⟨v6, rfl, ⟨sd1, sd2, sd3, rfl, od1, od2, od3⟩, f6⟩
  obtain ⟨gd, cd1, curd, evd1, hcd, -, hgd⟩ := rwo_get od1 cpC_len (i := 0) (x := ⟨7, 9, 1000, 9, 126, 0⟩) rfl
  have hd4 : curd[4]? = some (.int .i64 126) := hgd 0 ⟨7, 9, 1000, 9, 126, 0⟩ 4 _ rfl rfl
  have evd1 : sd1 = .slice (some ⟨gd, 0, none⟩) 1 cd1 := evd1
  obtain ⟨Ad2, nd2, cd2, evd2⟩ : ∃ A n c, sd2 = .slice A n c := by obtain ⟨A, c, e, _⟩ := own_slice od2; exact ⟨A, _, c, e⟩
  obtain ⟨Ad3, nd3, cd3, evd3⟩ : ∃ A n c, sd3 = .slice A n c := by obtain ⟨A, c, e, _⟩ := own_slice od3; exact ⟨A, _, c, e⟩
  subst evd1 evd2 evd3
  have HOD := Lib.hid (And.intro od1 (And.intro od2 od3))
  have HCD := Lib.hid (And.intro hcd hd4)
  have HF6 := Lib.hid (HFW5.out.trans f6 (fun _ _ q => q))
  clear f6 od1 od2 od3 HC2 hcd hgd hd4
  go_upto_region 7 with fail
  obtain ⟨W7, hW7⟩ : ∃ W, W = w6.alloc (.cells (tkA simT1 (.slice (some ⟨gd, 0, none⟩) 1 cd1) (.slice Ad2 nd2 cd2) (.slice Ad3 nd3 cd3)) 27) := ⟨_, rfl⟩
  obtain ⟨gD, hgD⟩ : ∃ g, g = w6.heap.size := ⟨_, rfl⟩
  have HW7 : Hid (Fr (fun _ => False) w6 W7 ∧ Blk W7 gD 27 (tkA simT1 (.slice (some ⟨gd, 0, none⟩) 1 cd1) (.slice Ad2 nd2 cd2) (.slice Ad3 nd3 cd3))) := Lib.hid (by rw [hW7, hgD]; exact ⟨(Fr.refl _ w6).alloc _, Blk.new w6 _ _⟩)
  have HFW7 := Lib.hid (HF6.out.trans HW7.out.1 (fun _ _ q => q))
  rw [← hW7, ← hgD]
  clear hW7 hgD
  have HVD : Hid (TkV W7 (tkC simT1 (.slice (some ⟨gd, 0, none⟩) 1 cd1) (.slice Ad2 nd2 cd2) (.slice Ad3 nd3 cd3)) simT1) := Lib.hid ⟨_, _, _, rfl, (HOD.out.1.keep0 HW7.out.1).rd cpC_len, (HOD.out.2.1.keep0 HW7.out.1).rd txC_len, (HOD.out.2.2.keep0 HW7.out.1).rd evC_len⟩
  go_wp2_with (refine wpList_load_mid rfl 27 (.tmp 6) rfl gD 0 rfl (tkA simT1 (.slice (some ⟨gd, 0, none⟩) 1 cd1) (.slice Ad2 nd2 cd2) (.slice Ad3 nd3 cd3)).toList _ (blk_range HW7.out.2) Try.underlying27 rfl infoTk ?_)
  refine (HC3.out _ _ HVD.out).mono ?_
  rintro e w8 ⟨v8, rfl, ⟨sf1, sf2, sf3, rfl, of1, of2, of3⟩, f8⟩
  obtain ⟨gf, cf1, curf, evf1, hcf, -, hgf⟩ := rwo_get of1 cpC_len (i := 0) (x := ⟨7, 9, 1000, 1, 0, 0⟩) rfl
  have hf4 : curf[4]? = some (.int .i64 0) := hgf 0 ⟨7, 9, 1000, 1, 0, 0⟩ 4 _ rfl rfl
  have evf1 : sf1 = .slice (some ⟨gf, 0, none⟩) 1 cf1 := evf1
  obtain ⟨Af2, nf2, cf2, evf2⟩ : ∃ A n c, sf2 = .slice A n c := by obtain ⟨A, c, e, _⟩ := own_slice of2; exact ⟨A, _, c, e⟩
  obtain ⟨Af3, cf3, evf3⟩ : ∃ A c, sf3 = .slice A 2 c := by obtain ⟨A, c, e, _⟩ := own_slice of3; exact ⟨A, c, e⟩
  subst evf1 evf2 evf3
  have HCF := Lib.hid (And.intro hcf hf4)
  have HF8 := Lib.hid (HFW7.out.trans f8 (fun _ _ q => q))
  have HCD8 := Lib.hid ((HCD.out.1.keep HW7.out.1 (fun q => q)).keep f8 (fun q => q))
  have HBD8 := Lib.hid (HW7.out.2.keep f8 (fun q => q))
  clear f8 of1 of2 of3 HC3 hcf hgf hf4
  go_upto_region 8 with fail
  obtain ⟨W9, hW9⟩ : ∃ W, W = w8.alloc (.cells (tkA simT2 (.slice (some ⟨gf, 0, none⟩) 1 cf1) (.slice Af2 nf2 cf2) (.slice Af3 2 cf3)) 27) := ⟨_, rfl⟩
  obtain ⟨gF, hgF⟩ : ∃ g, g = w8.heap.size := ⟨_, rfl⟩
  have HW9 : Hid (Fr (fun _ => False) w8 W9 ∧ Blk W9 gF 27 (tkA simT2 (.slice (some ⟨gf, 0, none⟩) 1 cf1) (.slice Af2 nf2 cf2) (.slice Af3 2 cf3))) := Lib.hid (by rw [hW9, hgF]; exact ⟨(Fr.refl _ w8).alloc _, Blk.new w8 _ _⟩)
  have HFW9 := Lib.hid (HF8.out.trans HW9.out.1 (fun _ _ q => q))
  rw [← hW9, ← hgF]
  clear hW9 hgF
  have k1 : W9.cell? ⟨gD, 3, none⟩ = some (.slice (some ⟨gd, 0, none⟩) 1 cd1) := cp_cell (HBD8.out.keep HW9.out.1 (fun q => q)) 3 rfl
  have k2 : W9.cell? ⟨gd, 4, none⟩ = some (.int .i64 126) := cp_cell (HCD8.out.keep HW9.out.1 (fun q => q)) 4 HCD.out.2
  have k3 : W9.cell? ⟨gF, 3, none⟩ = some (.slice (some ⟨gf, 0, none⟩) 1 cf1) := cp_cell HW9.out.2 3 rfl
  have k4 : W9.cell? ⟨gf, 4, none⟩ = some (.int .i64 0) := cp_cell (HCF.out.1.keep HW9.out.1 (fun q => q)) 4 HCF.out.2
  have k5 : W9.cell? ⟨gF, 10, none⟩ = some (.slice Af3 2 cf3) := cp_cell HW9.out.2 10 rfl
  go_wp2_with fail
  clear k1 k2 k3 k4 k5
  go_ret
  exact ⟨rfl, HFw1.out.trans (HW2.out.1.trans HFW9.out (fun _ _ q => q)) (fun _ _ q => q)⟩
end Go.Proofs.Ytmopkfjnjbimnaa
