/- R6: laid together out of Qca Qcb Qct. -/
import Derived.Test.YtcnlgbjkjlbmbaaGreatR5
namespace Go.Proofs.YtcnlgbjkjlbmbaaGreat
open Go.RowKit

section
variable {w : World} {p g z fr lb M1 M2 : Nat} {v : Value} {dd : Bool}
set_option maxRecDepth 100000 in
set_option maxHeartbeats 16000000 in
theorem plcommit_a {B c s e N need : Nat} {P : Nat → Prop} {d : DS} {q : List (Nat × List Chg)} {f1 f2 : Nat → List UInt8} {cl : List (Nat × List UInt8)} (h : PlB w p g z fr lb M1 M2 v dd) (hf : FrV w v cl) (hd : DT w B g d P) (hr : RI d z c s q e) (hl : LgW w lb g z c s e q.length false) (hMP1 : ¬ P M1) (hMP2 : ¬ P M2) (hm1 : PMap w M1 N f1) (hm2 : PMap w M2 N f2) (hne : M1 ≠ M2) (hN : N ≤ 2000) (hz : z ≤ 4000) (hcl : cl.length ≤ 10000) (hcn : ∀ x ∈ cl, x.1 ≤ 8192)
 (hmr : mayR (chgs f1 (openF f1 N)) = true) (hneed : need = needN ((bytesR (chgs f1 (openF f1 N))).length : Nat)) (hn5 : need ≤ 5000) (hmt : mayT c (q.length : Int) = true) (hroom : need ≤ z - e) :
 Calls Tryz.prog 54 #[.pointer (some ⟨p, 0, none⟩), .int .i64 (need : Nat)] w fun en w' => ∃ v', en = .returned (.int .i64 (if (d.settles (1 + e) (rowS c q.length (chgs f1 (openF f1 N)))) then 0 else 10)) ∧ PlB w' p g z fr lb M1 M2 v' dd ∧ v'.ownBlock = v.ownBlock ∧ ((d.settles (1 + e) (rowS c q.length (chgs f1 (openF f1 N)))) = true → LgW w' lb g z c s (e + need) (q.length + 1) false ∧ PMap w' M1 N (fun _ => []) ∧ PMap w' M2 N (overF f1 f2) ∧ FrV w' v' (cl.filter fun c => decide (f1 c.1 = []))) ∧ (∃ P', DT w' B g (d.settle (1 + e) (rowS c q.length (chgs f1 (openF f1 N)))) P' ∧ ∀ b, P' b → P b ∨ w.heap.size ≤ b) ∧ Fr (fun b => P b ∨ b = lb ∨ b = p ∨ b = M1 ∨ b = M2 ∨ v.ownBlock = some b) w w' := by
 obtain ⟨l, hll⟩ : ∃ l, l = openF f1 N := ⟨_, rfl⟩
 rw [← hll] at hmr hneed ⊢
 have HLL := Lib.hid hll
 obtain ⟨CR, hCR⟩ : ∃ CR : Int → World → Prop, CR = fun rr w' => ∃ v', rr = (if (d.settles (1 + e) (rowS c q.length (chgs f1 l))) then 0 else 10) ∧ PlB w' p g z fr lb M1 M2 v' dd ∧ v'.ownBlock = v.ownBlock ∧ ((d.settles (1 + e) (rowS c q.length (chgs f1 l))) = true → LgW w' lb g z c s (e + need) (q.length + 1) false ∧ PMap w' M1 N (fun _ => []) ∧ PMap w' M2 N (overF f1 f2) ∧ FrV w' v' (cl.filter fun c => decide (f1 c.1 = []))) ∧ (∃ P', DT w' B g (d.settle (1 + e) (rowS c q.length (chgs f1 l))) P' ∧ ∀ b, P' b → P b ∨ w.heap.size ≤ b) ∧ Fr (fun b => P b ∨ b = lb ∨ b = p ∨ b = M1 ∨ b = M2 ∨ v.ownBlock = some b) w w' := ⟨_, rfl⟩
 have HCR := Lib.hid hCR
 suffices hgoal : Calls Tryz.prog 54 #[.pointer (some ⟨p, 0, none⟩), .int .i64 (need : Nat)] w fun en w' => ∃ rr, en = .returned (.int .i64 rr) ∧ CR rr w' by
  refine hgoal.mono ?_
  rintro en w' ⟨rr, rfl, hq⟩
  rw [hCR] at hq
  obtain ⟨v', rfl, hq⟩ := hq
  exact ⟨v', rfl, hq⟩
 clear hCR
 have hrise : ∀ n ∈ l, n < N ∧ f1 n ≠ [] ∧ (f1 n).length = 512 := fun n hn => by
  rw [hll] at hn
  have h1 := openF_mem.1 hn
  exact ⟨h1.1, h1.2, (hm1.some_lt h1.2).2⟩
 have hlm : l.length ≤ N := by
  have : l.length ≤ (List.range N).length := by rw [hll]; exact List.length_filter_le _ _
  rwa [List.length_range] at this
 have h5 : ∀ x ∈ chgs f1 l, x.p.length = 512 := fun x hx => by
  unfold chgs at hx
  obtain ⟨n, hn, rfl⟩ := List.mem_map.1 hx
  exact (hrise n hn).2.2
 have hpP : ¬ P p := hd.not_t h (by decide) (by decide)
 have hvb : ∀ k, v.ownBlock = some k → k ≠ p ∧ k < w.heap.size ∧ k ≠ M1 ∧ k ≠ M2 ∧ k ≠ lb ∧ ¬ P k := fun k hk => by
  obtain ⟨bs, ho, _⟩ := hf
  obtain ⟨cs, hb⟩ := own_blk ho hk
  exact ⟨fun e => own_ne ho h (by decide) (by rw [hk, e]), hb.lt, fun e => hm1.ne_own ho (by rw [hk, e]), fun e => hm2.ne_own ho (by rw [hk, e]), fun e => own_ne ho hl (by decide) (by rw [hk, e]), hd.not_t hb (by decide) (by decide)⟩
 obtain ⟨W0, hW0⟩ : ∃ W0, W0 = w.alloc (.cells #[.pointer (some ⟨p, 0, none⟩)] 31) := ⟨_, rfl⟩
 have f0 : Fr (fun _ => False) w W0 := by rw [hW0]; exact (Fr.refl _ w).alloc _
 have hb0 : Blk W0 w.heap.size 31 #[.pointer (some ⟨p, 0, none⟩)] := by rw [hW0]; exact Blk.new w _ _
 have he := hr.says.2.2
 have HRM := Lib.hid (plroom_any (h.keep f0 (fun q => q)) (hl.keep f0 (fun q => q)) he hz)
 have H0 := Lib.hid (And.intro (h.keep f0 (fun q => q)) (And.intro (hf.keep f0 (fun _ _ q => q) (fun _ _ _ q => q)) (And.intro (hd.keep' f0 (fun _ _ q => q)) (And.intro hr (And.intro (hl.keep f0 (fun q => q)) (And.intro (hm1.keep f0 (fun q => q)) (And.intro (hm2.keep f0 (fun q => q)) (And.intro hb0 f0))))))))
 have HS := Lib.hid (And.intro hMP1 (And.intro hMP2 (And.intro hne (And.intro hpP (And.intro hvb (And.intro hm1.lt (And.intro hm2.lt (And.intro h.lt (And.intro hl.lt (And.intro (Eq.refl w.heap.size) (And.intro (h.ne_ hl (by decide)) (And.intro (hm1.ne_blk h) (And.intro (hm2.ne_blk h) (And.intro (hm1.ne_blk hl) (And.intro (hm2.ne_blk hl) (fun b (hb : P b) => (hd.1.2 b hb).2))))))))))))))))
 have HR := Lib.hid (And.intro hrise (And.intro h5 (And.intro hmr (And.intro hneed hcn))))
 clear h hf hd hr hl hMP1 hMP2 hm1 hm2 hne hcn hmr hneed hll hrise h5 hpP hvb f0 hb0
 have hk0 : W0.cell? ⟨w.heap.size, 0, none⟩ = some (.pointer (some ⟨p, 0, none⟩)) := by rw [H0.out.2.2.2.2.2.2.2.1.cell]; rfl
 rw [hW0] at hk0
 go_enter Tryz.func54, Tryz.ntmps54
 rw [hW0] at HRM
 go_wp2_with fail
 refine HRM.out.mono ?_
 rintro en w1 ⟨rfl, hw1⟩
 rw [← hW0] at hw1
 have fj1 : Fr (fun _ => False) W0 w1 := by rw [hw1]; exact (Fr.refl _ _).drew

 have HJ := Lib.hid (And.intro (H0.out.1.keep fj1 (fun q => q)) (And.intro (H0.out.2.1.keep fj1 (fun _ _ q => q) (fun _ _ _ q => q)) (And.intro (H0.out.2.2.1.keep' fj1 (fun _ _ q => q)) (And.intro H0.out.2.2.2.1 (And.intro (H0.out.2.2.2.2.1.keep fj1 (fun q => q)) (And.intro (H0.out.2.2.2.2.2.1.keep fj1 (fun q => q)) (And.intro (H0.out.2.2.2.2.2.2.1.keep fj1 (fun q => q)) (And.intro (H0.out.2.2.2.2.2.2.2.1.keep fj1 (fun q => q)) (And.intro ((H0.out.2.2.2.2.2.2.2.2.trans fj1 (fun _ _ q => q)).mono (G := fun b => P b ∨ b = lb ∨ b = p ∨ b = M1 ∨ b = M2 ∨ v.ownBlock = some b) (fun _ _ q => q.elim)) (fun b (hb : P b) => (Or.inl hb : P b ∨ w.heap.size ≤ b)))))))))))
 have hnr : ¬ ((z - e : Nat) : Int) < (need : Int) := by omega
 clear fj1 HRM hk0 hw1

 have hkj : w1.cell? ⟨w.heap.size, 0, none⟩ = some (.pointer (some ⟨p, 0, none⟩)) := by rw [HJ.out.2.2.2.2.2.2.2.1.cell]; rfl
 have HCH := Lib.hid (plchanged_any HJ.out.1 HJ.out.2.2.2.2.2.1 (by omega))
 go_wp2_with fail
 refine HCH.out.mono ?_
 rintro en w3 ⟨u, rfl, hrow, f3⟩
 rw [← HLL.out] at hrow
 have hob : ∀ b, u.ownBlock = some b → w1.heap.size ≤ b := fun b hb => own_low hrow hb
 have hzl : (asZ l).length = l.length := by simp
 rw [← hzl] at hrow
 obtain ⟨Av, cv, hv, hvl, hvc⟩ := IntsAt.own hrow
 subst hv
 obtain ⟨m, hm⟩ : ∃ m, m = l.length := ⟨_, rfl⟩
 rw [hzl, ← hm] at hvl hvc ⊢
 have hm9 : m ≤ 2000 := by omega
 have hk3 : w3.cell? ⟨w.heap.size, 0, none⟩ = some (.pointer (some ⟨p, 0, none⟩)) := by rw [(HJ.out.2.2.2.2.2.2.2.1.keep f3 (fun q => q)).cell]; rfl
 have H3 := Lib.hid (And.intro hm (And.intro hvc (And.intro hob f3)))
 clear hrow hob hzl hvl hvc hm f3 HCH hkj
 go_wp2_with fail
 go_loopw [6, 22] (fun x6 x wr => ∃ k : Nat, x = .int .i64 k ∧ k ≤ m ∧ Hid (wr.ownsRow w3.heap.size 101 513 x6 (chgs f1 (l.take k)).length (recC (chgs f1 (l.take k)))) ∧ Hid (Fr (fun _ => False) w3 wr)) (fun _ x _ => m - (intOf x).toNat)
 case atStart => exact ⟨0, rfl, Nat.zero_le _, Lib.hid (World.ownsRow_nil _ _ _ _), Lib.hid (Fr.refl _ _)⟩
 case round =>
  obtain ⟨k, rfl, hk, HO, HF⟩ := hrel
  have hk3r : wr.cell? ⟨w.heap.size, 0, none⟩ = some (.pointer (some ⟨p, 0, none⟩)) := by rw [((HJ.out.2.2.2.2.2.2.2.1.keep H3.out.2.2.2 (fun q => q)).keep HF.out (fun q => q)).cell]; rfl
  have fjr : Fr (fun _ => False) w1 wr := H3.out.2.2.2.trans HF.out (fun _ _ q => q)
  have hplr := HJ.out.1.keep fjr (fun q => q)
  clear hk3
  by_cases hlt : k < m
  · obtain ⟨n, hn⟩ : ∃ n, l[k]? = some n := ⟨_, List.getElem?_eq_getElem (by have := H3.out.1; omega)⟩
    obtain ⟨hnN, hn0, hn5'⟩ := HR.out.1 n (List.mem_of_getElem? hn)
    obtain ⟨bo, oo, hao, hoc⟩ := H3.out.2.1 (by omega)
    subst hao
    have hco : wr.cell? ⟨bo, oo + k, none⟩ = some (.int .i64 (n : Int)) := by
     have h1 := hoc k (n : Int) (by simp [hn])
     exact (HF.out.cell (World.block_lt_of_cell? w3 _ h1) (fun q => q)).trans h1
    have k4 := (pl_cells hplr).2.2.2.2.1
    obtain ⟨x, hx⟩ : ∃ x, x = f1 n := ⟨_, rfl⟩
    have hpo : pgOr (f1 n) = x := by rw [hx]; unfold pgOr; rw [if_neg hn0]
    rw [← hx] at hn5'
    have hsn := chgs_snoc (f := f1) hn
    rw [← hx] at hsn
    have hpm : PMap wr M1 N f1 := HJ.out.2.2.2.2.2.1.keep fjr (fun q => q)
    have fa : Fr (fun _ => False) wr (wr.alloc (.cells (chC ⟨((n : Nat) : Int), x⟩).toArray 101)) := (Fr.refl _ wr).alloc _
    have hoa := own_keep HO.out fa (fun _ _ q => q)
    have hra : (wr.alloc (.cells (chC ⟨((n : Nat) : Int), x⟩).toArray 101)).rangeAt wr.heap.size 0 (chC ⟨((n : Nat) : Int), x⟩) := fun j u hj => by
     rw [(Blk.new wr 101 (chC ⟨((n : Nat) : Int), x⟩).toArray).cell, Nat.zero_add]
     simpa using hj
    have HN := Lib.hid (And.intro hpm (And.intro hpo (And.intro hn5' (And.intro hsn (And.intro fa (And.intro hoa (And.intro hra HF.out.size)))))))
    have hn9 : n ≤ 8192 := by omega
    have hk0 : (0 : Int) ≤ (k : Int) := by omega
    have hkn : (k : Int) < (m : Int) := by omega
    have hkl : (chgs f1 (l.take k)).length ≤ 100000 := by rw [chgs_len, List.length_take]; omega
    clear hn hnN hn0 hn5' hoc hpo hsn hpm fa hoa hra hx hlt hplr fjr
    go_wp2_with (first
     | (at_lookup; refine wpList_pm_look rfl _ _ false rfl HN.out.1 (by omega) rfl rfl hn9 ?_; rw [HN.out.2.1]; simp only [Bool.false_eq_true, if_false])
     | (refine wpList_build_chg rfl (.tmp 27) (.tmp 33) rfl (c := ⟨((n : Nat) : Int), x⟩) HN.out.2.2.1 rfl rfl ?_)
     | (refine wpList_one_chg rfl (.tmp 34) rfl (c := ⟨((n : Nat) : Int), x⟩) HN.out.2.2.1 rfl ?_)
     | (at_builtin; refine wpList_push_chg rfl (.tmp 26) (.tmp 35) rfl rfl HN.out.2.2.2.2.2.1 rfl HN.out.2.2.2.2.2.2.1 HN.out.2.2.1 hkl (by have := HN.out.2.2.2.2.2.2.2; have := HN.out.2.2.2.2.1.size; omega) ?_; intro v9 w9 ho9 hg9; have f9 := (HF.out.trans HN.out.2.2.2.2.1 (fun _ _ q => q)).grown hg9 (fun k hk => .inr (own_low HN.out.2.2.2.2.2.1 hk)); have H9 := Lib.hid (And.intro ho9 f9); clear ho9 hg9 f9))
    refine ⟨⟨k + 1, by norm_cast, by omega, Lib.hid (by rw [HN.out.2.2.2.1]; exact H9.out.1), Lib.hid H9.out.2⟩, ?_⟩
    simp only [intOf]
    omega
  · obtain rfl : k = m := by omega
    obtain ⟨r, hr⟩ : ∃ r, r = chgs f1 l := ⟨_, rfl⟩
    have hO := HO.out
    rw [List.take_of_length_le (by have := H3.out.1; omega), ← hr] at hO
    have hrc := rcV_of_own hO (by rw [hr]; exact HR.out.2.1)
    have hlg := HJ.out.2.2.2.2.1.keep fjr (fun q => q)
    have hdt := HJ.out.2.2.1.keep' fjr (fun _ _ q => q)
    have k3 := (pl_cells hplr).2.2.2.1
    have hmt' : mayT c ((q.length : Nat) : Int) = true := hmt
    have HLC := Lib.hid (rcommit_any hdt HJ.out.2.2.2.1 hlg hrc (fun b hb => own_blk hO hb) (by rw [hr]; exact HR.out.2.2.1) hmt' hz)
    obtain ⟨ok, hok⟩ : ∃ ok, ok = d.settles (1 + e) (rowS c q.length r) := ⟨_, rfl⟩
    rw [← hok] at HLC
    have hroom' : e + needN ((bytesR r).length : Nat) ≤ z := by rw [hr, ← HR.out.2.2.2.1]; exact (by omega)
    have HK := Lib.hid (And.intro hok (And.intro hr (And.intro hroom' (And.intro hplr (And.intro hdt (And.intro hlg fjr))))))
    clear hO hrc hlg hdt hok hr hroom' hplr fjr hlt hmt'
    go_wp2_with fail
    refine HLC.out.mono ?_
    rintro en w4 ⟨-, o2⟩
    obtain ⟨rfl, hlg4, ⟨P4, hd4, hp4⟩, f4⟩ := o2 HK.out.2.2.1
    obtain ⟨hok, hr, hroom', hplr, hdt, hlg, fjr⟩ := HK.out
    obtain ⟨hMP1, hMP2, hne, hpP, hvb, hM1l, hM2l, hpl, hlbl, hbp, hplb, hM1p, hM2p, hM1lb, hM2lb, hPl⟩ := HS.out
    obtain ⟨jPl, jFr, jDT, jRI, jLg, jM1, jM2, jBp, jF, jSep⟩ := HJ.out
    have hnj : ∀ b, b < w.heap.size → ¬ P b → ¬ P b := fun b hb h1 h2 => (jSep b h2).elim h1 (fun h3 => by omega)
    have hpl4 := hplr.keep f4 (fun q => q.elim (hnj p hpl hpP) hplb)
    have hm14 := (jM1.keep fjr (fun q => q)).keep f4 (fun q => q.elim (hnj M1 hM1l hMP1) hM1lb)
    have hm24 := (jM2.keep fjr (fun q => q)).keep f4 (fun q => q.elim (hnj M2 hM2l hMP2) hM2lb)
    have hbpr := jBp.keep fjr (fun q => q)
    have hbp4 := hbpr.keep f4 (fun q => q.elim (hdt.not_t hbpr (by decide) (by decide)) (fun e => by omega))
    have hfrr := jFr.keep fjr (fun _ _ q => q) (fun _ _ _ q => q)
    have hfr4 := hfrr.keep f4 (fun k hk q => q.elim (hnj k (hvb k hk).2.1 (hvb k hk).2.2.2.2.2) (hvb k hk).2.2.2.2.1) (fun k cs hk q => q.elim (hdt.not_t hk (by decide) (by decide)) (fun e => absurd (blk_type (e ▸ hk) hlg) (by decide)))
    have hF4 : Fr (fun b => P b ∨ b = lb ∨ b = p ∨ b = M1 ∨ b = M2 ∨ v.ownBlock = some b) w w4 := (jF.trans fjr (fun _ _ q => q.elim)).trans f4 (fun b hb q => by
     rcases q with q | q
     · rcases jSep b q with y | y
       · exact .inl y
       · omega
     · exact .inr (.inl q))
    have hsep4 : ∀ b, P4 b → P b ∨ w.heap.size ≤ b := fun b hb => by
     rcases hp4 b hb with y | y
     · exact jSep b y
     · have := jF.size; have := fjr.size; exact .inr (by omega)
    have H4 := Lib.hid (And.intro hpl4 (And.intro hm14 (And.intro hm24 (And.intro hbp4 (And.intro hfr4 (And.intro hF4 (And.intro hsep4 (And.intro hd4 hlg4))))))))
    have HOK := Lib.hid (And.intro hok hr)
    clear hlg4 hd4 hp4 f4 o2 hok hr hroom' hplr hdt hlg fjr hMP1 hMP2 hne hpP hvb hM1l hM2l hpl hlbl hbp hplb hM1p hM2p hM1lb hM2lb hPl jPl jFr jDT jRI jLg jM1 jM2 jBp jF jSep hnj hpl4 hm14 hm24 hbpr hbp4 hfrr hfr4 hF4 hsep4 HLC k3 hk3r
    cases ok with
    | false =>
      simp only [Bool.false_eq_true, if_false]
      go_wp2_with fail
      go_ret
      refine ⟨10, rfl, ?_⟩
      rw [HCR.out]
      obtain ⟨hpl4, hm14, hm24, hbp4, hfr4, hF4, hsep4, hd4, hlg4⟩ := H4.out
      have hokl : (d.settles (1 + e) (rowS c q.length (chgs f1 l))) = false := by have := HOK.out.1; rw [HOK.out.2] at this; exact this.symm
      refine ⟨v, by rw [hokl]; rfl, hpl4, rfl, (fun q => by rw [hokl] at q; cases q), ⟨P4, (by rw [← HOK.out.2]; exact hd4), hsep4⟩, hF4⟩
    | true =>
      simp only [if_true]
      have hk4 : w4.cell? ⟨w.heap.size, 0, none⟩ = some (.pointer (some ⟨p, 0, none⟩)) := by rw [H4.out.2.2.2.1.cell]; rfl
      go_wp2_with fail
      (try simp only [Act.put, List.setIfInBounds_toArray, List.set_cons_zero, List.set_cons_succ])
      refine wp_region_held_drew (S := fun w' => w'.cell? ⟨w.heap.size, 0, none⟩ = some (.pointer (some ⟨p, 0, none⟩))) (by kernel_rfl) hk4 (fun hS0 => ?_)
      refine anyH_tk 0 47 (.pointer (some ⟨p, 0, none⟩)) rfl rfl (.inl ⟨by rfl, fun w'' hS => by have q0 := hS; go_simp⟩) hS0 ?_
      (simp only [sA, sB, sC])
      refine anyH_tk 1 48 (.pointer (some ⟨p, 0, none⟩)) rfl rfl (.inl ⟨by rfl, fun w'' hS => by have q0 := hS; go_simp⟩) hS0 ?_
      (simp only [sA, sB, sC])
      refine anyH_tk 2 49 (.pointer (some ⟨p, 0, none⟩)) rfl rfl (.inl ⟨by rfl, fun w'' hS => by go_simp⟩) hS0 ?_
      (simp only [sA, sB, sC])
      refine anyH_tk 3 50 (.pointer (some ⟨p, 6, none⟩)) rfl rfl (.inl ⟨by rfl, fun w'' hS => by go_simp⟩) hS0 ?_
      (simp only [sA, sB, sC])
      refine anyH_tk 5 52 (cmF w.heap.size) rfl rfl (.inl ⟨by rfl, fun w'' hS => by go_simp⟩) hS0 ?_
      (simp only [sA, sB, sC])
      have hk6' : w4.cell? ⟨p, 6, none⟩ = some v := (pl_cells H4.out.1).2.2.2.2.2.2.1
      refine anyH_value 4 51 v w4.drew (by kernel_rfl) rfl rfl (by rfl) (by go_simp) hS0 ?_
      (simp only [sA, sB, sC])
      clear hk6'
      obtain ⟨bs, hown, hbl, hall⟩ := H4.out.2.2.2.2.1
      have hnv : ∀ b t cs, Blk w4 b t cs → t ≠ 93 → ¬ (v.ownBlock = some b) := fun b t cs hb h1 => own_ne hown hb (fun e => h1 e.symm)
      have hcm : CmAt w4.drew v w.heap.size bs cl f1 := fun W fW k b c hb hc => by
       have fW' : Fr (fun b => v.ownBlock = some b) w4 W := ((Fr.refl (fun b => v.ownBlock = some b) w4).drew).trans fW (fun _ _ q => q)
       have hbk := (hall k b c hb hc).1
       exact plcom1_any (H4.out.1.keep fW' (hnv _ _ _ H4.out.1 (by decide))) (H4.out.2.1.keep fW' (fun q => H4.out.2.1.ne_own hown q)) (by omega) (HR.out.2.2.2.2 c (List.mem_of_getElem? hc)) (hbk.keep fW' (hnv _ _ _ hbk (by decide))) (H4.out.2.2.2.1.keep fW' (hnv _ _ _ H4.out.2.2.2.1 (by decide)))
      have HDE := Lib.hid (cdelete_any (own_keep hown ((Fr.refl (fun _ => False) w4).drew) (fun _ _ q => q)) hbl (by omega) hcm)
      have HBS := Lib.hid (And.intro hown (And.intro hbl (And.intro hall hnv)))
      clear hown hbl hall hnv hcm
      refine anyH_enter 6 53 (f := 84) (args := #[v, cmF w.heap.size]) (by kernel_rfl) rfl rfl (by rfl) (by go_simp) ?_
      refine HDE.out.mono ?_
      rintro en w5 ⟨v5, rfl, ⟨bs', ho5, hbl5, hall5⟩, hb5, f5⟩
      have f5' : Fr (fun b => v.ownBlock = some b) w4 w5 := ((Fr.refl (fun b => v.ownBlock = some b) w4).drew).trans f5 (fun _ _ q => q)
      obtain ⟨hown, hbl, hall, hnv⟩ := HBS.out
      have hpl5 := H4.out.1.keep f5' (hnv _ _ _ H4.out.1 (by decide))
      have hbp5 := H4.out.2.2.2.1.keep f5' (hnv _ _ _ H4.out.2.2.2.1 (by decide))
      have hS5 : w5.cell? ⟨w.heap.size, 0, none⟩ = some (.pointer (some ⟨p, 0, none⟩)) := by rw [hbp5.cell]; rfl
      refine ⟨_, rfl, hS5, ?_⟩
      (simp only [sA, sB, sC])
      refine anyH_tk 7 54 (.pointer (some ⟨p, 0, none⟩)) rfl rfl (.inl ⟨by rfl, fun w'' hS => by go_simp⟩) hS5 ?_
      (simp only [sA, sB, sC])
      refine anyH_tk 8 55 (.pointer (some ⟨p, 6, none⟩)) rfl rfl (.inl ⟨by rfl, fun w'' hS => by go_simp⟩) hS5 ?_
      (simp only [sA, sB, sC])

      obtain ⟨A5, m5, c5, hv5⟩ := own_form ho5
      have k6 := (pl_cells hpl5).2.2.2.2.2.2.1
      have z6 := hpl5.frozen 6
      have hpl6 : PlB (w5.setCell ⟨p, 6, none⟩ v5) p g z fr lb M1 M2 v5 dd := hpl5.set_ 6 v5
      have f6 : Fr (fun b => b = p) w5 (w5.setCell ⟨p, 6, none⟩ v5) := (Fr.refl (fun b => b = p) w5).setCell (p := ⟨p, 6, none⟩) (.inl rfl) v5
      have hbp6 := hbp5.keep f6 (fun e => absurd (blk_type (e ▸ hbp5) hpl5) (by decide))
      have hm16 := (H4.out.2.1.keep f5' (fun q => H4.out.2.1.ne_own hown q)).keep f6 HS.out.2.2.2.2.2.2.2.2.2.2.2.1
      have hm26 := (H4.out.2.2.1.keep f5' (fun q => H4.out.2.2.1.ne_own hown q)).keep f6 HS.out.2.2.2.2.2.2.2.2.2.2.2.2.1
      have hlgk : ∀ {us mm : Nat} {ld : Bool}, LgW w4 lb g z c s us mm ld → LgW (w5.setCell ⟨p, 6, none⟩ v5) lb g z c s us mm ld := fun hl => (hl.keep f5' (hnv _ _ _ hl (by decide))).keep f6 (fun e => HS.out.2.2.2.2.2.2.2.2.2.2.1 e.symm)
      have hdt6 : DT (w5.setCell ⟨p, 6, none⟩ v5) B g (d.settle (1 + e) (rowS c q.length r)) P4 := (H4.out.2.2.2.2.2.2.2.1.keep' f5' (fun b hb q => by
       have hvq := HS.out.2.2.2.2.1 b q
       rcases H4.out.2.2.2.2.2.2.1 b hb with y | y
       · exact hvq.2.2.2.2.2 y
       · omega)).keep' f6 (fun b hb q => by
       rcases H4.out.2.2.2.2.2.2.1 b hb with y | y
       · exact HS.out.2.2.2.1 (q ▸ y)
       · have := HS.out.2.2.2.2.2.2.2.1; omega)
      have hfr6 : FrV (w5.setCell ⟨p, 6, none⟩ v5) v5 (cl.filter fun c => decide (f1 c.1 = [])) := ⟨bs', own_keep ho5 f6 (fun k hk e => (HS.out.2.2.2.2.1 k (hb5 ▸ hk)).1 e), hbl5, fun i b c h1 h2 => by
       obtain ⟨j, h3, h4⟩ := hall5 i b c h1 h2
       have h6 := hall j b c h3 h4
       have h7 := h6.1.keep f5' (hnv _ _ _ h6.1 (by decide))
       exact ⟨h7.keep f6 (fun e => absurd (blk_type (e ▸ h7) hpl5) (by decide)), h6.2⟩⟩
      have hF6 : Fr (fun b => P b ∨ b = lb ∨ b = p ∨ b = M1 ∨ b = M2 ∨ v.ownBlock = some b) w (w5.setCell ⟨p, 6, none⟩ v5) := (H4.out.2.2.2.2.2.1.trans f5' (fun _ _ q => .inr (.inr (.inr (.inr (.inr q)))))).trans f6 (fun _ _ q => .inr (.inr (.inl q)))
      have hS6 : (w5.setCell ⟨p, 6, none⟩ v5).cell? ⟨w.heap.size, 0, none⟩ = some (.pointer (some ⟨p, 0, none⟩)) := by rw [hbp6.cell]; rfl
      have hlg6 := hlgk H4.out.2.2.2.2.2.2.2.2
      have hrun9 : ∀ {a : Act}, a.eval (.tmp 55) = .pointer (some ⟨p, 6, none⟩) → a.eval (.tmp 53) = v5 → (execOp a.eval { dst := none, op := Op.store 63 (.tmp 55) (.tmp 53), type := 0, pos := "pool.go:276", after := #[], guard := none }).run Tryz.prog w5 = .ok .skip (w5.setCell ⟨p, 6, none⟩ v5) := fun h1 h2 => by
       subst hv5
       simp only [execOp, h1, h2]
       go_simp
      have H6 := Lib.hid (And.intro hpl6 (And.intro hbp6 (And.intro hm16 (And.intro hm26 (And.intro hdt6 (And.intro hfr6 (And.intro hF6 (And.intro hlg6 hb5))))))))
      refine anyH_skip 9 (w5.setCell ⟨p, 6, none⟩ v5) (by kernel_rfl) rfl rfl (by rfl) (by subst hv5; go_simp) hS6 ?_
      refine wpAnyH_done (by kernel_rfl) ?_ _
      obtain ⟨w6, hw6⟩ : ∃ w6, w6 = w5.setCell ⟨p, 6, none⟩ v5 := ⟨_, rfl⟩
      rw [← hw6] at H6 hS6 ⊢
      clear hrun9 hlgk hpl6 f6 hbp6 hm16 hm26 hdt6 hfr6 hF6 hlg6 hb5 hS5 hS0 hk4 hpl5 hbp5 k6 z6 f5 f5' ho5 hbl5 hall5 hown hbl hall hnv HDE hw6
      have hk5 := (pl_cells H6.out.1).2.2.2.2.2.1
      have hk4' := (pl_cells H6.out.1).2.2.2.2.1
      have HCP := Lib.hid (plcopy_any (H6.out.2.2.1.keep (G := fun _ => False) ((Fr.refl _ w6).drew) (fun q => q)) (H6.out.2.2.2.1.keep (G := fun _ => False) ((Fr.refl _ w6).drew) (fun q => q)) HS.out.2.2.1 (by omega))
      go_wp2_with fail
      (try simp only [Act.put, List.setIfInBounds_toArray, List.set_cons_zero, List.set_cons_succ])
      refine wp_region_held_drew (S := fun w' => w'.cell? ⟨w.heap.size, 0, none⟩ = some (.pointer (some ⟨p, 0, none⟩)) ∧ w'.cell? ⟨p, 5, none⟩ = some (.map (some M2)) ∧ w'.cell? ⟨p, 4, none⟩ = some (.map (some M1))) (by kernel_rfl) ⟨hS6, hk5, hk4'⟩ (fun hS0 => ?_)
      refine anyH_tk 0 56 (.pointer (some ⟨p, 0, none⟩)) rfl rfl (.inl ⟨by rfl, fun w'' hS => by have q0 := hS.1; go_simp⟩) hS0 ?_
      (simp only [sA, sB, sC])
      refine anyH_tk 1 57 (.pointer (some ⟨p, 0, none⟩)) rfl rfl (.inl ⟨by rfl, fun w'' hS => by go_simp⟩) hS0 ?_
      (simp only [sA, sB, sC])
      refine anyH_tk 2 58 (.pointer (some ⟨p, 5, none⟩)) rfl rfl (.inl ⟨by rfl, fun w'' hS => by go_simp⟩) hS0 ?_
      (simp only [sA, sB, sC])
      refine anyH_tk 3 59 (.map (some M2)) rfl rfl (.inl ⟨by rfl, fun w'' hS => by have q0 := hS.2.1; go_simp⟩) hS0 ?_
      (simp only [sA, sB, sC])
      refine anyH_tk 4 60 (.pointer (some ⟨p, 0, none⟩)) rfl rfl (.inl ⟨by rfl, fun w'' hS => by have q0 := hS.1; go_simp⟩) hS0 ?_
      (simp only [sA, sB, sC])
      refine anyH_tk 5 61 (.pointer (some ⟨p, 0, none⟩)) rfl rfl (.inl ⟨by rfl, fun w'' hS => by go_simp⟩) hS0 ?_
      (simp only [sA, sB, sC])
      refine anyH_tk 6 62 (.pointer (some ⟨p, 4, none⟩)) rfl rfl (.inl ⟨by rfl, fun w'' hS => by go_simp⟩) hS0 ?_
      (simp only [sA, sB, sC])
      refine anyH_tk 7 63 (.map (some M1)) rfl rfl (.inl ⟨by rfl, fun w'' hS => by have q0 := hS.2.2; go_simp⟩) hS0 ?_
      (simp only [sA, sB, sC])

      refine anyH_enter 8 64 (f := 86) (args := #[.map (some M2), .map (some M1)]) (by kernel_rfl) rfl rfl (by rfl) (by go_simp) ?_
      refine HCP.out.mono ?_
      rintro en w7 ⟨rfl, hm27, f7⟩
      have f7' : Fr (fun b => b = M2) w6 w7 := ((Fr.refl (fun b => b = M2) w6).drew).trans f7 (fun _ _ q => q)
      have hpl7 := H6.out.1.keep f7' (fun e => H6.out.2.2.2.1.ne_blk H6.out.1 e.symm)
      have hbp7 := H6.out.2.1.keep f7' (fun e => H6.out.2.2.2.1.ne_blk H6.out.2.1 e.symm)
      have hS7 : w7.cell? ⟨w.heap.size, 0, none⟩ = some (.pointer (some ⟨p, 0, none⟩)) ∧ w7.cell? ⟨p, 5, none⟩ = some (.map (some M2)) ∧ w7.cell? ⟨p, 4, none⟩ = some (.map (some M1)) := ⟨by rw [hbp7.cell]; rfl, (pl_cells hpl7).2.2.2.2.2.1, (pl_cells hpl7).2.2.2.2.1⟩
      refine ⟨_, rfl, hS7, ?_⟩
      (simp only [sA, sB, sC])
      refine wpAnyH_done (by kernel_rfl) ?_ _
      have hm17 := H6.out.2.2.1.keep f7' HS.out.2.2.1
      have H7 := Lib.hid (And.intro hpl7 (And.intro hm27 (And.intro hm17 f7')))
      obtain ⟨hS7a, hS7b, hS7c⟩ := hS7
      clear hS6 hk5 hk4' HCP hS0 hm27 f7 f7' hpl7 hbp7 hm17 hS7b
      go_wp2_with (refine wpList_pm_clear rfl (.tmp 68) rfl H7.out.2.2.1 rfl ?_; intro w8 hm8 f8; have H8 := Lib.hid (And.intro hm8 f8); clear hm8 f8 hS7a hS7c)
      go_ret
      refine ⟨0, rfl, ?_⟩
      rw [HCR.out]
      have hokl : (d.settles (1 + e) (rowS c q.length (chgs f1 l))) = true := by have := HOK.out.1; rw [HOK.out.2] at this; exact this.symm
      obtain ⟨hpl6, hbp6, hm16, hm26, hdt6, hfr6, hF6, hlg6, hb5⟩ := H6.out
      obtain ⟨hpl7, hm27, hm17, f7⟩ := H7.out
      obtain ⟨hm8, f8⟩ := H8.out
      have hne := HS.out.2.2.1
      have f78 : Fr (fun b => b = M2 ∨ b = M1) w6 w8 := (f7.mono (fun _ _ q => .inl q)).trans f8 (fun _ _ q => .inr q)
      have hnb : ∀ b t cs, Blk w6 b t cs → ¬ (b = M2 ∨ b = M1) := fun b t cs hb q => q.elim (fun e => hm26.ne_blk hb e.symm) (fun e => hm16.ne_blk hb e.symm)
      have hn4 : needN ((bytesR r).length : Nat) = need := by rw [HOK.out.2]; exact HR.out.2.2.2.1.symm
      refine ⟨v5, by rw [hokl]; rfl, hpl6.keep f78 (hnb _ _ _ hpl6), hb5, fun _ => ⟨?_, hm8, hm27.keep f8 (fun e => hne e.symm), hfr6.keep f78 (fun k hk q => ?_) (fun k cs hk q => hnb _ _ _ hk q)⟩, ⟨P4, (by rw [← HOK.out.2]; exact hdt6.keep' f78 (fun b hb q => (H4.out.2.2.2.2.2.2.1 b hb).elim (fun y => q.elim (fun e => HS.out.2.1 (e ▸ y)) (fun e => HS.out.1 (e ▸ y))) (fun y => by have h1 := HS.out.2.2.2.2.2.1; have h2 := HS.out.2.2.2.2.2.2.1; omega))), H4.out.2.2.2.2.2.2.1⟩, hF6.trans f78 (fun _ _ q => .inr (.inr (.inr (q.elim (fun e => .inr (.inl e)) .inl))))⟩
      · have := hlg6.keep f78 (hnb _ _ _ hlg6)
        rw [hn4] at this
        exact this
      · have hvk := HS.out.2.2.2.2.1 k (hb5 ▸ hk)
        exact q.elim (fun e => hvk.2.2.2.1 e) (fun e => hvk.2.2.1 e)
end
end Go.Proofs.YtcnlgbjkjlbmbaaGreat

namespace Go.Proofs.YtcnlgbjkjlbmbaaGreat
open Go.RowKit
set_option maxRecDepth 100000 in
theorem RI.ckpt {d : DS} {z c s e N : Nat} {q : List (Nat × List Chg)} {f : Nat → List UInt8} (h : RI d z c s q e) (h512 : ∀ n, f n ≠ [] → n < N ∧ (f n).length = 512) (hfit : 1 + z + 4 * N ≤ d.rd.length) (hc : c < maxC) (ok : ckOk d z c N f = true) : RI (ckD d z c N f) z (c + 1) (c + 1) [] 0 ∧ ∀ e' n, NW (ckD d z c N f) z (c + 1) e' n := by
 unfold ckOk at ok
 rw [Bool.and_eq_true] at ok
 have h1 := (h.puts h512 hfit ok.1).cut hc ok.2
 unfold ckD
 rw [if_pos ok.1]
 exact h1

section
variable {w : World} {p g z fr lb M1 M2 : Nat} {v : Value} {dd : Bool}
set_option maxRecDepth 100000 in
set_option maxHeartbeats 16000000 in
theorem plcommit_b {B c s e N need : Nat} {P : Nat → Prop} {d : DS} {q : List (Nat × List Chg)} {f1 f2 : Nat → List UInt8} {cl : List (Nat × List UInt8)} (h : PlB w p g z fr lb M1 M2 v dd) (hf : FrV w v cl) (hd : DT w B g d P) (hr : RI d z c s q e) (hl : LgW w lb g z c s e q.length false) (hMP1 : ¬ P M1) (hMP2 : ¬ P M2) (hm1 : PMap w M1 N f1) (hm2 : PMap w M2 N f2) (hne : M1 ≠ M2) (hN : N ≤ 2000) (hz : z ≤ 4000) (hcl : cl.length ≤ 10000) (hcn : ∀ x ∈ cl, x.1 ≤ 8192)
 (hmr : mayR (chgs f1 (openF f1 N)) = true) (hneed : need = needN ((bytesR (chgs f1 (openF f1 N))).length : Nat)) (hn5 : need ≤ 5000) (hmt : mayT (c + 1) ((0 : Nat) : Int) = true) (hc : c < maxC) (hfit : 1 + z + 4 * N ≤ d.rd.length) (hroom : z - e < need) (hnz : need ≤ z) :
 Calls Tryz.prog 54 #[.pointer (some ⟨p, 0, none⟩), .int .i64 (need : Nat)] w fun en w' => ∃ v', en = .returned (.int .i64 (if (ckOk d z c N f2 && (ckD d z c N f2).settles (1 + 0) (rowS (c + 1) ([] : List (Nat × List Chg)).length (chgs f1 (openF f1 N)))) then 0 else 10)) ∧ PlB w' p g z fr lb M1 M2 v' dd ∧ v'.ownBlock = v.ownBlock ∧ ((ckOk d z c N f2 && (ckD d z c N f2).settles (1 + 0) (rowS (c + 1) ([] : List (Nat × List Chg)).length (chgs f1 (openF f1 N)))) = true → LgW w' lb g z (c + 1) (c + 1) (0 + need) (([] : List (Nat × List Chg)).length + 1) false ∧ PMap w' M1 N (fun _ => []) ∧ PMap w' M2 N (overF f1 (fun _ => [])) ∧ FrV w' v' (cl.filter fun c => decide (f1 c.1 = []))) ∧ (∃ P', DT w' B g (if ckOk d z c N f2 = true then (ckD d z c N f2).settle (1 + 0) (rowS (c + 1) ([] : List (Nat × List Chg)).length (chgs f1 (openF f1 N))) else ckD d z c N f2) P' ∧ ∀ b, P' b → P b ∨ w.heap.size ≤ b) ∧ Fr (fun b => P b ∨ b = lb ∨ b = p ∨ b = M1 ∨ b = M2 ∨ v.ownBlock = some b) w w' := by
 obtain ⟨l, hll⟩ : ∃ l, l = openF f1 N := ⟨_, rfl⟩
 rw [← hll] at hmr hneed ⊢
 have HLL := Lib.hid hll
 obtain ⟨CR, hCR⟩ : ∃ CR : Int → World → Prop, CR = fun rr w' => ∃ v', rr = (if (ckOk d z c N f2 && (ckD d z c N f2).settles (1 + 0) (rowS (c + 1) ([] : List (Nat × List Chg)).length (chgs f1 l))) then 0 else 10) ∧ PlB w' p g z fr lb M1 M2 v' dd ∧ v'.ownBlock = v.ownBlock ∧ ((ckOk d z c N f2 && (ckD d z c N f2).settles (1 + 0) (rowS (c + 1) ([] : List (Nat × List Chg)).length (chgs f1 l))) = true → LgW w' lb g z (c + 1) (c + 1) (0 + need) (([] : List (Nat × List Chg)).length + 1) false ∧ PMap w' M1 N (fun _ => []) ∧ PMap w' M2 N (overF f1 (fun _ => [])) ∧ FrV w' v' (cl.filter fun c => decide (f1 c.1 = []))) ∧ (∃ P', DT w' B g (if ckOk d z c N f2 = true then (ckD d z c N f2).settle (1 + 0) (rowS (c + 1) ([] : List (Nat × List Chg)).length (chgs f1 l)) else ckD d z c N f2) P' ∧ ∀ b, P' b → P b ∨ w.heap.size ≤ b) ∧ Fr (fun b => P b ∨ b = lb ∨ b = p ∨ b = M1 ∨ b = M2 ∨ v.ownBlock = some b) w w' := ⟨_, rfl⟩
 have HCR := Lib.hid hCR
 suffices hgoal : Calls Tryz.prog 54 #[.pointer (some ⟨p, 0, none⟩), .int .i64 (need : Nat)] w fun en w' => ∃ rr, en = .returned (.int .i64 rr) ∧ CR rr w' by
  refine hgoal.mono ?_
  rintro en w' ⟨rr, rfl, hq⟩
  rw [hCR] at hq
  obtain ⟨v', rfl, hq⟩ := hq
  exact ⟨v', rfl, hq⟩
 clear hCR
 have hrise : ∀ n ∈ l, n < N ∧ f1 n ≠ [] ∧ (f1 n).length = 512 := fun n hn => by
  rw [hll] at hn
  have h1 := openF_mem.1 hn
  exact ⟨h1.1, h1.2, (hm1.some_lt h1.2).2⟩
 have hlm : l.length ≤ N := by
  have : l.length ≤ (List.range N).length := by rw [hll]; exact List.length_filter_le _ _
  rwa [List.length_range] at this
 have h5 : ∀ x ∈ chgs f1 l, x.p.length = 512 := fun x hx => by
  unfold chgs at hx
  obtain ⟨n, hn, rfl⟩ := List.mem_map.1 hx
  exact (hrise n hn).2.2
 have hpP : ¬ P p := hd.not_t h (by decide) (by decide)
 have hvb : ∀ k, v.ownBlock = some k → k ≠ p ∧ k < w.heap.size ∧ k ≠ M1 ∧ k ≠ M2 ∧ k ≠ lb ∧ ¬ P k := fun k hk => by
  obtain ⟨bs, ho, _⟩ := hf
  obtain ⟨cs, hb⟩ := own_blk ho hk
  exact ⟨fun e => own_ne ho h (by decide) (by rw [hk, e]), hb.lt, fun e => hm1.ne_own ho (by rw [hk, e]), fun e => hm2.ne_own ho (by rw [hk, e]), fun e => own_ne ho hl (by decide) (by rw [hk, e]), hd.not_t hb (by decide) (by decide)⟩
 obtain ⟨W0, hW0⟩ : ∃ W0, W0 = w.alloc (.cells #[.pointer (some ⟨p, 0, none⟩)] 31) := ⟨_, rfl⟩
 have f0 : Fr (fun _ => False) w W0 := by rw [hW0]; exact (Fr.refl _ w).alloc _
 have hb0 : Blk W0 w.heap.size 31 #[.pointer (some ⟨p, 0, none⟩)] := by rw [hW0]; exact Blk.new w _ _
 have he := hr.says.2.2
 have HRM := Lib.hid (plroom_any (h.keep f0 (fun q => q)) (hl.keep f0 (fun q => q)) he hz)
 have H0 := Lib.hid (And.intro (h.keep f0 (fun q => q)) (And.intro (hf.keep f0 (fun _ _ q => q) (fun _ _ _ q => q)) (And.intro (hd.keep' f0 (fun _ _ q => q)) (And.intro hr (And.intro (hl.keep f0 (fun q => q)) (And.intro (hm1.keep f0 (fun q => q)) (And.intro (hm2.keep f0 (fun q => q)) (And.intro hb0 f0))))))))
 have HS := Lib.hid (And.intro hMP1 (And.intro hMP2 (And.intro hne (And.intro hpP (And.intro hvb (And.intro hm1.lt (And.intro hm2.lt (And.intro h.lt (And.intro hl.lt (And.intro (Eq.refl w.heap.size) (And.intro (h.ne_ hl (by decide)) (And.intro (hm1.ne_blk h) (And.intro (hm2.ne_blk h) (And.intro (hm1.ne_blk hl) (And.intro (hm2.ne_blk hl) (fun b (hb : P b) => (hd.1.2 b hb).2))))))))))))))))
 have HR := Lib.hid (And.intro hrise (And.intro h5 (And.intro hmr (And.intro hneed hcn))))
 clear h hf hd hr hl hMP1 hMP2 hm1 hm2 hne hcn hmr hneed hll hrise h5 hpP hvb f0 hb0
 have hk0 : W0.cell? ⟨w.heap.size, 0, none⟩ = some (.pointer (some ⟨p, 0, none⟩)) := by rw [H0.out.2.2.2.2.2.2.2.1.cell]; rfl
 rw [hW0] at hk0
 go_enter Tryz.func54, Tryz.ntmps54
 rw [hW0] at HRM
 go_wp2_with fail
 refine HRM.out.mono ?_
 rintro en w1 ⟨rfl, hw1⟩
 rw [← hW0] at hw1
 have fj1 : Fr (fun _ => False) W0 w1 := by rw [hw1]; exact (Fr.refl _ _).drew

 have h1 := H0.out.1.keep fj1 (fun q => q)
 have hf1 := H0.out.2.1.keep fj1 (fun _ _ q => q) (fun _ _ _ q => q)
 have hd1 := H0.out.2.2.1.keep' fj1 (fun _ _ q => q)
 have hl1 := H0.out.2.2.2.2.1.keep fj1 (fun q => q)
 have hm11 := H0.out.2.2.2.2.2.1.keep fj1 (fun q => q)
 have hm21 := H0.out.2.2.2.2.2.2.1.keep fj1 (fun q => q)
 have hb1 := H0.out.2.2.2.2.2.2.2.1.keep fj1 (fun q => q)
 have hF1 : Fr (fun b => P b ∨ b = lb ∨ b = p ∨ b = M1 ∨ b = M2 ∨ v.ownBlock = some b) w w1 := (H0.out.2.2.2.2.2.2.2.2.trans fj1 (fun _ _ q => q)).mono (fun _ _ q => q.elim)
 have HCK := Lib.hid (plckpt_any h1 hd1 H0.out.2.2.2.1 hl1 HS.out.2.2.2.1 HS.out.2.1 hm21 hN hz hfit hc)
 obtain ⟨ck, hck⟩ : ∃ ck, ck = ckOk d z c N f2 := ⟨_, rfl⟩
 obtain ⟨dj, hdj⟩ : ∃ dj, dj = ckD d z c N f2 := ⟨_, rfl⟩
 rw [← hck, ← hdj] at HCK
 have hri : ck = true → RI dj z (c + 1) (c + 1) [] 0 := fun e9 => by
  rw [hdj]
  exact (H0.out.2.2.2.1.ckpt (fun n hn => hm21.some_lt hn) hfit hc (by rw [← hck]; exact e9)).1
 have HJF := Lib.hid fj1
 have HW1 := Lib.hid (And.intro h1 (And.intro hf1 (And.intro hd1 (And.intro hl1 (And.intro hm11 (And.intro hb1 (And.intro hF1 (And.intro hri (And.intro hck (And.intro hdj (H0.out.2.2.2.2.2.2.2.2.trans fj1 (fun _ _ q => q)).size))))))))))
 have hk1 : w1.cell? ⟨w.heap.size, 0, none⟩ = some (.pointer (some ⟨p, 0, none⟩)) := by rw [hb1.cell]; rfl
 have hnr : ((z - e : Nat) : Int) < (need : Int) := by omega
 clear fj1 HRM hk0 hw1 h1 hf1 hd1 hl1 hm11 hm21 hb1 hF1 hri hck hdj
 go_wp2_with fail
 refine HCK.out.mono ?_
 rintro en w2 ⟨rfl, hpl2, hok2, ⟨P2, hd2, hp2⟩, f2'⟩
 have HG2 := Lib.hid (And.intro hpl2 (And.intro hok2 (And.intro hd2 (And.intro hp2 f2'))))
 clear hpl2 hok2 hd2 hp2 f2' HCK hk1
 have hsep2 : ∀ b, P2 b → P b ∨ w.heap.size ≤ b := fun b hb => by
  rcases HG2.out.2.2.2.1 b hb with y | y
  · exact .inl y
  · have := HW1.out.2.2.2.2.2.2.2.2.2.2; exact .inr (by omega)
 have hF2 : Fr (fun b => P b ∨ b = lb ∨ b = p ∨ b = M1 ∨ b = M2 ∨ v.ownBlock = some b) w w2 := HW1.out.2.2.2.2.2.2.1.trans HG2.out.2.2.2.2 (fun b _ q => by
  rcases q with q | q | q
  · exact .inl q
  · exact .inr (.inl q)
  · exact .inr (.inr (.inr (.inr (.inl q)))))
 have HX2 := Lib.hid (And.intro hsep2 hF2)
 clear hsep2 hF2
 cases ck with
 | false =>
   simp only [Bool.false_eq_true, if_false]
   go_wp2_with fail
   go_ret
   refine ⟨10, rfl, ?_⟩
   rw [HCR.out]
   have hck := HW1.out.2.2.2.2.2.2.2.2.1
   have hokl : (ckOk d z c N f2 && (ckD d z c N f2).settles (1 + 0) (rowS (c + 1) ([] : List (Nat × List Chg)).length (chgs f1 l))) = false := by rw [← hck, Bool.false_and]
   refine ⟨v, by rw [hokl]; rfl, HG2.out.1, rfl, (fun q => by rw [hokl] at q; cases q), ⟨P2, by rw [← hck, if_neg (by decide), ← HW1.out.2.2.2.2.2.2.2.2.2.1]; exact HG2.out.2.2.1, HX2.out.1⟩, HX2.out.2⟩
 | true =>
   simp only [if_true]
   have HCKF := Lib.hid (And.intro HW1.out.2.2.2.2.2.2.2.2.1.symm HW1.out.2.2.2.2.2.2.2.2.2.1)
   have hok2 := HG2.out.2.1 rfl
   have hS2 : ∀ b, b < w.heap.size → ¬ P b → b ≠ lb → b ≠ M2 → ¬ (P b ∨ b = lb ∨ b = M2) := fun b _ h1 h2 h3 q => q.elim h1 (fun q => q.elim h2 h3)
   have HJ := Lib.hid (And.intro HG2.out.1 (And.intro (HW1.out.2.1.keep HG2.out.2.2.2.2 (fun k hk => hS2 k (HS.out.2.2.2.2.1 k hk).2.1 (HS.out.2.2.2.2.1 k hk).2.2.2.2.2 (HS.out.2.2.2.2.1 k hk).2.2.2.2.1 (HS.out.2.2.2.2.1 k hk).2.2.2.1) (fun k cs hk q => by
    rcases q with q | q | q
    · exact HW1.out.2.2.1.not_t hk (by decide) (by decide) q
    · exact absurd (blk_type (q ▸ hk) HW1.out.2.2.2.1) (by decide)
    · exact (H0.out.2.2.2.2.2.2.1.keep (G := fun _ => False) (w' := w1) HJF.out (fun q => q)).ne_blk hk q.symm)) (And.intro HG2.out.2.2.1 (And.intro (HW1.out.2.2.2.2.2.2.2.1 rfl) (And.intro hok2.1 (And.intro (HW1.out.2.2.2.2.1.keep HG2.out.2.2.2.2 (hS2 M1 HS.out.2.2.2.2.2.1 HS.out.1 HS.out.2.2.2.2.2.2.2.2.2.2.2.2.2.1 HS.out.2.2.1)) (And.intro hok2.2 (And.intro (HW1.out.2.2.2.2.2.1.keep HG2.out.2.2.2.2 (fun q => by
    rcases q with q | q | q
    · exact HW1.out.2.2.1.not_t HW1.out.2.2.2.2.2.1 (by decide) (by decide) q
    · have := HS.out.2.2.2.2.2.2.2.2.1; omega
    · have := HS.out.2.2.2.2.2.2.1; omega)) (And.intro HX2.out.2 HX2.out.1)))))))))
   clear hok2 hS2 hnr

   have hkj : w2.cell? ⟨w.heap.size, 0, none⟩ = some (.pointer (some ⟨p, 0, none⟩)) := by rw [HJ.out.2.2.2.2.2.2.2.1.cell]; rfl
   have HCH := Lib.hid (plchanged_any HJ.out.1 HJ.out.2.2.2.2.2.1 (by omega))
   go_wp2_with fail
   refine HCH.out.mono ?_
   rintro en w3 ⟨u, rfl, hrow, f3⟩
   rw [← HLL.out] at hrow
   have hob : ∀ b, u.ownBlock = some b → w2.heap.size ≤ b := fun b hb => own_low hrow hb
   have hzl : (asZ l).length = l.length := by simp
   rw [← hzl] at hrow
   obtain ⟨Av, cv, hv, hvl, hvc⟩ := IntsAt.own hrow
   subst hv
   obtain ⟨m, hm⟩ : ∃ m, m = l.length := ⟨_, rfl⟩
   rw [hzl, ← hm] at hvl hvc ⊢
   have hm9 : m ≤ 2000 := by omega
   have hk3 : w3.cell? ⟨w.heap.size, 0, none⟩ = some (.pointer (some ⟨p, 0, none⟩)) := by rw [(HJ.out.2.2.2.2.2.2.2.1.keep f3 (fun q => q)).cell]; rfl
   have H3 := Lib.hid (And.intro hm (And.intro hvc (And.intro hob f3)))
   clear hrow hob hzl hvl hvc hm f3 HCH hkj
   go_wp2_with fail
   go_loopw [6, 22] (fun x6 x wr => ∃ k : Nat, x = .int .i64 k ∧ k ≤ m ∧ Hid (wr.ownsRow w3.heap.size 101 513 x6 (chgs f1 (l.take k)).length (recC (chgs f1 (l.take k)))) ∧ Hid (Fr (fun _ => False) w3 wr)) (fun _ x _ => m - (intOf x).toNat)
   case atStart => exact ⟨0, rfl, Nat.zero_le _, Lib.hid (World.ownsRow_nil _ _ _ _), Lib.hid (Fr.refl _ _)⟩
   case round =>
    obtain ⟨k, rfl, hk, HO, HF⟩ := hrel
    have hk3r : wr.cell? ⟨w.heap.size, 0, none⟩ = some (.pointer (some ⟨p, 0, none⟩)) := by rw [((HJ.out.2.2.2.2.2.2.2.1.keep H3.out.2.2.2 (fun q => q)).keep HF.out (fun q => q)).cell]; rfl
    have fjr : Fr (fun _ => False) w2 wr := H3.out.2.2.2.trans HF.out (fun _ _ q => q)
    have hplr := HJ.out.1.keep fjr (fun q => q)
    clear hk3
    by_cases hlt : k < m
    · obtain ⟨n, hn⟩ : ∃ n, l[k]? = some n := ⟨_, List.getElem?_eq_getElem (by have := H3.out.1; omega)⟩
      obtain ⟨hnN, hn0, hn5'⟩ := HR.out.1 n (List.mem_of_getElem? hn)
      obtain ⟨bo, oo, hao, hoc⟩ := H3.out.2.1 (by omega)
      subst hao
      have hco : wr.cell? ⟨bo, oo + k, none⟩ = some (.int .i64 (n : Int)) := by
       have h1 := hoc k (n : Int) (by simp [hn])
       exact (HF.out.cell (World.block_lt_of_cell? w3 _ h1) (fun q => q)).trans h1
      have k4 := (pl_cells hplr).2.2.2.2.1
      obtain ⟨x, hx⟩ : ∃ x, x = f1 n := ⟨_, rfl⟩
      have hpo : pgOr (f1 n) = x := by rw [hx]; unfold pgOr; rw [if_neg hn0]
      rw [← hx] at hn5'
      have hsn := chgs_snoc (f := f1) hn
      rw [← hx] at hsn
      have hpm : PMap wr M1 N f1 := HJ.out.2.2.2.2.2.1.keep fjr (fun q => q)
      have fa : Fr (fun _ => False) wr (wr.alloc (.cells (chC ⟨((n : Nat) : Int), x⟩).toArray 101)) := (Fr.refl _ wr).alloc _
      have hoa := own_keep HO.out fa (fun _ _ q => q)
      have hra : (wr.alloc (.cells (chC ⟨((n : Nat) : Int), x⟩).toArray 101)).rangeAt wr.heap.size 0 (chC ⟨((n : Nat) : Int), x⟩) := fun j u hj => by
       rw [(Blk.new wr 101 (chC ⟨((n : Nat) : Int), x⟩).toArray).cell, Nat.zero_add]
       simpa using hj
      have HN := Lib.hid (And.intro hpm (And.intro hpo (And.intro hn5' (And.intro hsn (And.intro fa (And.intro hoa (And.intro hra HF.out.size)))))))
      have hn9 : n ≤ 8192 := by omega
      have hk0 : (0 : Int) ≤ (k : Int) := by omega
      have hkn : (k : Int) < (m : Int) := by omega
      have hkl : (chgs f1 (l.take k)).length ≤ 100000 := by rw [chgs_len, List.length_take]; omega
      clear hn hnN hn0 hn5' hoc hpo hsn hpm fa hoa hra hx hlt hplr fjr
      go_wp2_with (first
       | (at_lookup; refine wpList_pm_look rfl _ _ false rfl HN.out.1 (by omega) rfl rfl hn9 ?_; rw [HN.out.2.1]; simp only [Bool.false_eq_true, if_false])
       | (refine wpList_build_chg rfl (.tmp 27) (.tmp 33) rfl (c := ⟨((n : Nat) : Int), x⟩) HN.out.2.2.1 rfl rfl ?_)
       | (refine wpList_one_chg rfl (.tmp 34) rfl (c := ⟨((n : Nat) : Int), x⟩) HN.out.2.2.1 rfl ?_)
       | (at_builtin; refine wpList_push_chg rfl (.tmp 26) (.tmp 35) rfl rfl HN.out.2.2.2.2.2.1 rfl HN.out.2.2.2.2.2.2.1 HN.out.2.2.1 hkl (by have := HN.out.2.2.2.2.2.2.2; have := HN.out.2.2.2.2.1.size; omega) ?_; intro v9 w9 ho9 hg9; have f9 := (HF.out.trans HN.out.2.2.2.2.1 (fun _ _ q => q)).grown hg9 (fun k hk => .inr (own_low HN.out.2.2.2.2.2.1 hk)); have H9 := Lib.hid (And.intro ho9 f9); clear ho9 hg9 f9))
      refine ⟨⟨k + 1, by norm_cast, by omega, Lib.hid (by rw [HN.out.2.2.2.1]; exact H9.out.1), Lib.hid H9.out.2⟩, ?_⟩
      simp only [intOf]
      omega
    · obtain rfl : k = m := by omega
      obtain ⟨r, hr⟩ : ∃ r, r = chgs f1 l := ⟨_, rfl⟩
      have hO := HO.out
      rw [List.take_of_length_le (by have := H3.out.1; omega), ← hr] at hO
      have hrc := rcV_of_own hO (by rw [hr]; exact HR.out.2.1)
      have hlg := HJ.out.2.2.2.2.1.keep fjr (fun q => q)
      have hdt := HJ.out.2.2.1.keep' fjr (fun _ _ q => q)
      have k3 := (pl_cells hplr).2.2.2.1
      have hmt' : mayT (c + 1) ((([] : List (Nat × List Chg)).length : Nat) : Int) = true := hmt
      have HLC := Lib.hid (rcommit_any hdt HJ.out.2.2.2.1 hlg hrc (fun b hb => own_blk hO hb) (by rw [hr]; exact HR.out.2.2.1) hmt' hz)
      obtain ⟨ok, hok⟩ : ∃ ok, ok = dj.settles (1 + 0) (rowS (c + 1) ([] : List (Nat × List Chg)).length r) := ⟨_, rfl⟩
      rw [← hok] at HLC
      have hroom' : 0 + needN ((bytesR r).length : Nat) ≤ z := by rw [hr, ← HR.out.2.2.2.1]; exact (by omega)
      have HK := Lib.hid (And.intro hok (And.intro hr (And.intro hroom' (And.intro hplr (And.intro hdt (And.intro hlg fjr))))))
      clear hO hrc hlg hdt hok hr hroom' hplr fjr hlt hmt'
      go_wp2_with fail
      refine HLC.out.mono ?_
      rintro en w4 ⟨-, o2⟩
      obtain ⟨rfl, hlg4, ⟨P4, hd4, hp4⟩, f4⟩ := o2 HK.out.2.2.1
      obtain ⟨hok, hr, hroom', hplr, hdt, hlg, fjr⟩ := HK.out
      obtain ⟨hMP1, hMP2, hne, hpP, hvb, hM1l, hM2l, hpl, hlbl, hbp, hplb, hM1p, hM2p, hM1lb, hM2lb, hPl⟩ := HS.out
      obtain ⟨jPl, jFr, jDT, jRI, jLg, jM1, jM2, jBp, jF, jSep⟩ := HJ.out
      have hnj : ∀ b, b < w.heap.size → ¬ P b → ¬ P2 b := fun b hb h1 h2 => (jSep b h2).elim h1 (fun h3 => by omega)
      have hpl4 := hplr.keep f4 (fun q => q.elim (hnj p hpl hpP) hplb)
      have hm14 := (jM1.keep fjr (fun q => q)).keep f4 (fun q => q.elim (hnj M1 hM1l hMP1) hM1lb)
      have hm24 := (jM2.keep fjr (fun q => q)).keep f4 (fun q => q.elim (hnj M2 hM2l hMP2) hM2lb)
      have hbpr := jBp.keep fjr (fun q => q)
      have hbp4 := hbpr.keep f4 (fun q => q.elim (hdt.not_t hbpr (by decide) (by decide)) (fun e => by omega))
      have hfrr := jFr.keep fjr (fun _ _ q => q) (fun _ _ _ q => q)
      have hfr4 := hfrr.keep f4 (fun k hk q => q.elim (hnj k (hvb k hk).2.1 (hvb k hk).2.2.2.2.2) (hvb k hk).2.2.2.2.1) (fun k cs hk q => q.elim (hdt.not_t hk (by decide) (by decide)) (fun e => absurd (blk_type (e ▸ hk) hlg) (by decide)))
      have hF4 : Fr (fun b => P b ∨ b = lb ∨ b = p ∨ b = M1 ∨ b = M2 ∨ v.ownBlock = some b) w w4 := (jF.trans fjr (fun _ _ q => q.elim)).trans f4 (fun b hb q => by
       rcases q with q | q
       · rcases jSep b q with y | y
         · exact .inl y
         · omega
       · exact .inr (.inl q))
      have hsep4 : ∀ b, P4 b → P b ∨ w.heap.size ≤ b := fun b hb => by
       rcases hp4 b hb with y | y
       · exact jSep b y
       · have := jF.size; have := fjr.size; exact .inr (by omega)
      have H4 := Lib.hid (And.intro hpl4 (And.intro hm14 (And.intro hm24 (And.intro hbp4 (And.intro hfr4 (And.intro hF4 (And.intro hsep4 (And.intro hd4 hlg4))))))))
      have HOK := Lib.hid (And.intro hok hr)
      clear hlg4 hd4 hp4 f4 o2 hok hr hroom' hplr hdt hlg fjr hMP1 hMP2 hne hpP hvb hM1l hM2l hpl hlbl hbp hplb hM1p hM2p hM1lb hM2lb hPl jPl jFr jDT jRI jLg jM1 jM2 jBp jF jSep hnj hpl4 hm14 hm24 hbpr hbp4 hfrr hfr4 hF4 hsep4 HLC k3 hk3r
      cases ok with
      | false =>
        simp only [Bool.false_eq_true, if_false]
        go_wp2_with fail
        go_ret
        refine ⟨10, rfl, ?_⟩
        rw [HCR.out]
        obtain ⟨hpl4, hm14, hm24, hbp4, hfr4, hF4, hsep4, hd4, hlg4⟩ := H4.out
        have hokl : (ckOk d z c N f2 && (ckD d z c N f2).settles (1 + 0) (rowS (c + 1) ([] : List (Nat × List Chg)).length (chgs f1 l))) = false := by have := HOK.out.1; rw [HOK.out.2] at this; rw [HCKF.out.1, ← HCKF.out.2, Bool.true_and]; exact this.symm
        refine ⟨v, by rw [hokl]; rfl, hpl4, rfl, (fun q => by rw [hokl] at q; cases q), ⟨P4, (by rw [HCKF.out.1, if_pos rfl, ← HCKF.out.2, ← HOK.out.2]; exact hd4), hsep4⟩, hF4⟩
      | true =>
        simp only [if_true]
        have hk4 : w4.cell? ⟨w.heap.size, 0, none⟩ = some (.pointer (some ⟨p, 0, none⟩)) := by rw [H4.out.2.2.2.1.cell]; rfl
        go_wp2_with fail
        (try simp only [Act.put, List.setIfInBounds_toArray, List.set_cons_zero, List.set_cons_succ])
        refine wp_region_held_drew (S := fun w' => w'.cell? ⟨w.heap.size, 0, none⟩ = some (.pointer (some ⟨p, 0, none⟩))) (by kernel_rfl) hk4 (fun hS0 => ?_)
        refine anyH_tk 0 47 (.pointer (some ⟨p, 0, none⟩)) rfl rfl (.inl ⟨by rfl, fun w'' hS => by have q0 := hS; go_simp⟩) hS0 ?_
        (simp only [sA, sB, sC])
        refine anyH_tk 1 48 (.pointer (some ⟨p, 0, none⟩)) rfl rfl (.inl ⟨by rfl, fun w'' hS => by have q0 := hS; go_simp⟩) hS0 ?_
        (simp only [sA, sB, sC])
        refine anyH_tk 2 49 (.pointer (some ⟨p, 0, none⟩)) rfl rfl (.inl ⟨by rfl, fun w'' hS => by go_simp⟩) hS0 ?_
        (simp only [sA, sB, sC])
        refine anyH_tk 3 50 (.pointer (some ⟨p, 6, none⟩)) rfl rfl (.inl ⟨by rfl, fun w'' hS => by go_simp⟩) hS0 ?_
        (simp only [sA, sB, sC])
        refine anyH_tk 5 52 (cmF w.heap.size) rfl rfl (.inl ⟨by rfl, fun w'' hS => by go_simp⟩) hS0 ?_
        (simp only [sA, sB, sC])
        have hk6' : w4.cell? ⟨p, 6, none⟩ = some v := (pl_cells H4.out.1).2.2.2.2.2.2.1
        refine anyH_value 4 51 v w4.drew (by kernel_rfl) rfl rfl (by rfl) (by go_simp) hS0 ?_
        (simp only [sA, sB, sC])
        clear hk6'
        obtain ⟨bs, hown, hbl, hall⟩ := H4.out.2.2.2.2.1
        have hnv : ∀ b t cs, Blk w4 b t cs → t ≠ 93 → ¬ (v.ownBlock = some b) := fun b t cs hb h1 => own_ne hown hb (fun e => h1 e.symm)
        have hcm : CmAt w4.drew v w.heap.size bs cl f1 := fun W fW k b c hb hc => by
         have fW' : Fr (fun b => v.ownBlock = some b) w4 W := ((Fr.refl (fun b => v.ownBlock = some b) w4).drew).trans fW (fun _ _ q => q)
         have hbk := (hall k b c hb hc).1
         exact plcom1_any (H4.out.1.keep fW' (hnv _ _ _ H4.out.1 (by decide))) (H4.out.2.1.keep fW' (fun q => H4.out.2.1.ne_own hown q)) (by omega) (HR.out.2.2.2.2 c (List.mem_of_getElem? hc)) (hbk.keep fW' (hnv _ _ _ hbk (by decide))) (H4.out.2.2.2.1.keep fW' (hnv _ _ _ H4.out.2.2.2.1 (by decide)))
        have HDE := Lib.hid (cdelete_any (own_keep hown ((Fr.refl (fun _ => False) w4).drew) (fun _ _ q => q)) hbl (by omega) hcm)
        have HBS := Lib.hid (And.intro hown (And.intro hbl (And.intro hall hnv)))
        clear hown hbl hall hnv hcm
        refine anyH_enter 6 53 (f := 84) (args := #[v, cmF w.heap.size]) (by kernel_rfl) rfl rfl (by rfl) (by go_simp) ?_
        refine HDE.out.mono ?_
        rintro en w5 ⟨v5, rfl, ⟨bs', ho5, hbl5, hall5⟩, hb5, f5⟩
        have f5' : Fr (fun b => v.ownBlock = some b) w4 w5 := ((Fr.refl (fun b => v.ownBlock = some b) w4).drew).trans f5 (fun _ _ q => q)
        obtain ⟨hown, hbl, hall, hnv⟩ := HBS.out
        have hpl5 := H4.out.1.keep f5' (hnv _ _ _ H4.out.1 (by decide))
        have hbp5 := H4.out.2.2.2.1.keep f5' (hnv _ _ _ H4.out.2.2.2.1 (by decide))
        have hS5 : w5.cell? ⟨w.heap.size, 0, none⟩ = some (.pointer (some ⟨p, 0, none⟩)) := by rw [hbp5.cell]; rfl
        refine ⟨_, rfl, hS5, ?_⟩
        (simp only [sA, sB, sC])
        refine anyH_tk 7 54 (.pointer (some ⟨p, 0, none⟩)) rfl rfl (.inl ⟨by rfl, fun w'' hS => by go_simp⟩) hS5 ?_
        (simp only [sA, sB, sC])
        refine anyH_tk 8 55 (.pointer (some ⟨p, 6, none⟩)) rfl rfl (.inl ⟨by rfl, fun w'' hS => by go_simp⟩) hS5 ?_
        (simp only [sA, sB, sC])

        obtain ⟨A5, m5, c5, hv5⟩ := own_form ho5
        have k6 := (pl_cells hpl5).2.2.2.2.2.2.1
        have z6 := hpl5.frozen 6
        have hpl6 : PlB (w5.setCell ⟨p, 6, none⟩ v5) p g z fr lb M1 M2 v5 dd := hpl5.set_ 6 v5
        have f6 : Fr (fun b => b = p) w5 (w5.setCell ⟨p, 6, none⟩ v5) := (Fr.refl (fun b => b = p) w5).setCell (p := ⟨p, 6, none⟩) (.inl rfl) v5
        have hbp6 := hbp5.keep f6 (fun e => absurd (blk_type (e ▸ hbp5) hpl5) (by decide))
        have hm16 := (H4.out.2.1.keep f5' (fun q => H4.out.2.1.ne_own hown q)).keep f6 HS.out.2.2.2.2.2.2.2.2.2.2.2.1
        have hm26 := (H4.out.2.2.1.keep f5' (fun q => H4.out.2.2.1.ne_own hown q)).keep f6 HS.out.2.2.2.2.2.2.2.2.2.2.2.2.1
        have hlgk : ∀ {us mm : Nat} {ld : Bool}, LgW w4 lb g z (c + 1) (c + 1) us mm ld → LgW (w5.setCell ⟨p, 6, none⟩ v5) lb g z (c + 1) (c + 1) us mm ld := fun hl => (hl.keep f5' (hnv _ _ _ hl (by decide))).keep f6 (fun e => HS.out.2.2.2.2.2.2.2.2.2.2.1 e.symm)
        have hdt6 : DT (w5.setCell ⟨p, 6, none⟩ v5) B g (dj.settle (1 + 0) (rowS (c + 1) ([] : List (Nat × List Chg)).length r)) P4 := (H4.out.2.2.2.2.2.2.2.1.keep' f5' (fun b hb q => by
         have hvq := HS.out.2.2.2.2.1 b q
         rcases H4.out.2.2.2.2.2.2.1 b hb with y | y
         · exact hvq.2.2.2.2.2 y
         · omega)).keep' f6 (fun b hb q => by
         rcases H4.out.2.2.2.2.2.2.1 b hb with y | y
         · exact HS.out.2.2.2.1 (q ▸ y)
         · have := HS.out.2.2.2.2.2.2.2.1; omega)
        have hfr6 : FrV (w5.setCell ⟨p, 6, none⟩ v5) v5 (cl.filter fun c => decide (f1 c.1 = [])) := ⟨bs', own_keep ho5 f6 (fun k hk e => (HS.out.2.2.2.2.1 k (hb5 ▸ hk)).1 e), hbl5, fun i b c h1 h2 => by
         obtain ⟨j, h3, h4⟩ := hall5 i b c h1 h2
         have h6 := hall j b c h3 h4
         have h7 := h6.1.keep f5' (hnv _ _ _ h6.1 (by decide))
         exact ⟨h7.keep f6 (fun e => absurd (blk_type (e ▸ h7) hpl5) (by decide)), h6.2⟩⟩
        have hF6 : Fr (fun b => P b ∨ b = lb ∨ b = p ∨ b = M1 ∨ b = M2 ∨ v.ownBlock = some b) w (w5.setCell ⟨p, 6, none⟩ v5) := (H4.out.2.2.2.2.2.1.trans f5' (fun _ _ q => .inr (.inr (.inr (.inr (.inr q)))))).trans f6 (fun _ _ q => .inr (.inr (.inl q)))
        have hS6 : (w5.setCell ⟨p, 6, none⟩ v5).cell? ⟨w.heap.size, 0, none⟩ = some (.pointer (some ⟨p, 0, none⟩)) := by rw [hbp6.cell]; rfl
        have hlg6 := hlgk H4.out.2.2.2.2.2.2.2.2
        have hrun9 : ∀ {a : Act}, a.eval (.tmp 55) = .pointer (some ⟨p, 6, none⟩) → a.eval (.tmp 53) = v5 → (execOp a.eval { dst := none, op := Op.store 63 (.tmp 55) (.tmp 53), type := 0, pos := "pool.go:276", after := #[], guard := none }).run Tryz.prog w5 = .ok .skip (w5.setCell ⟨p, 6, none⟩ v5) := fun h1 h2 => by
         subst hv5
         simp only [execOp, h1, h2]
         go_simp
        have H6 := Lib.hid (And.intro hpl6 (And.intro hbp6 (And.intro hm16 (And.intro hm26 (And.intro hdt6 (And.intro hfr6 (And.intro hF6 (And.intro hlg6 hb5))))))))
        refine anyH_skip 9 (w5.setCell ⟨p, 6, none⟩ v5) (by kernel_rfl) rfl rfl (by rfl) (by subst hv5; go_simp) hS6 ?_
        refine wpAnyH_done (by kernel_rfl) ?_ _
        obtain ⟨w6, hw6⟩ : ∃ w6, w6 = w5.setCell ⟨p, 6, none⟩ v5 := ⟨_, rfl⟩
        rw [← hw6] at H6 hS6 ⊢
        clear hrun9 hlgk hpl6 f6 hbp6 hm16 hm26 hdt6 hfr6 hF6 hlg6 hb5 hS5 hS0 hk4 hpl5 hbp5 k6 z6 f5 f5' ho5 hbl5 hall5 hown hbl hall hnv HDE hw6
        have hk5 := (pl_cells H6.out.1).2.2.2.2.2.1
        have hk4' := (pl_cells H6.out.1).2.2.2.2.1
        have HCP := Lib.hid (plcopy_any (H6.out.2.2.1.keep (G := fun _ => False) ((Fr.refl _ w6).drew) (fun q => q)) (H6.out.2.2.2.1.keep (G := fun _ => False) ((Fr.refl _ w6).drew) (fun q => q)) HS.out.2.2.1 (by omega))
        go_wp2_with fail
        (try simp only [Act.put, List.setIfInBounds_toArray, List.set_cons_zero, List.set_cons_succ])
        refine wp_region_held_drew (S := fun w' => w'.cell? ⟨w.heap.size, 0, none⟩ = some (.pointer (some ⟨p, 0, none⟩)) ∧ w'.cell? ⟨p, 5, none⟩ = some (.map (some M2)) ∧ w'.cell? ⟨p, 4, none⟩ = some (.map (some M1))) (by kernel_rfl) ⟨hS6, hk5, hk4'⟩ (fun hS0 => ?_)
        refine anyH_tk 0 56 (.pointer (some ⟨p, 0, none⟩)) rfl rfl (.inl ⟨by rfl, fun w'' hS => by have q0 := hS.1; go_simp⟩) hS0 ?_
        (simp only [sA, sB, sC])
        refine anyH_tk 1 57 (.pointer (some ⟨p, 0, none⟩)) rfl rfl (.inl ⟨by rfl, fun w'' hS => by go_simp⟩) hS0 ?_
        (simp only [sA, sB, sC])
        refine anyH_tk 2 58 (.pointer (some ⟨p, 5, none⟩)) rfl rfl (.inl ⟨by rfl, fun w'' hS => by go_simp⟩) hS0 ?_
        (simp only [sA, sB, sC])
        refine anyH_tk 3 59 (.map (some M2)) rfl rfl (.inl ⟨by rfl, fun w'' hS => by have q0 := hS.2.1; go_simp⟩) hS0 ?_
        (simp only [sA, sB, sC])
        refine anyH_tk 4 60 (.pointer (some ⟨p, 0, none⟩)) rfl rfl (.inl ⟨by rfl, fun w'' hS => by have q0 := hS.1; go_simp⟩) hS0 ?_
        (simp only [sA, sB, sC])
        refine anyH_tk 5 61 (.pointer (some ⟨p, 0, none⟩)) rfl rfl (.inl ⟨by rfl, fun w'' hS => by go_simp⟩) hS0 ?_
        (simp only [sA, sB, sC])
        refine anyH_tk 6 62 (.pointer (some ⟨p, 4, none⟩)) rfl rfl (.inl ⟨by rfl, fun w'' hS => by go_simp⟩) hS0 ?_
        (simp only [sA, sB, sC])
        refine anyH_tk 7 63 (.map (some M1)) rfl rfl (.inl ⟨by rfl, fun w'' hS => by have q0 := hS.2.2; go_simp⟩) hS0 ?_
        (simp only [sA, sB, sC])

        refine anyH_enter 8 64 (f := 86) (args := #[.map (some M2), .map (some M1)]) (by kernel_rfl) rfl rfl (by rfl) (by go_simp) ?_
        refine HCP.out.mono ?_
        rintro en w7 ⟨rfl, hm27, f7⟩
        have f7' : Fr (fun b => b = M2) w6 w7 := ((Fr.refl (fun b => b = M2) w6).drew).trans f7 (fun _ _ q => q)
        have hpl7 := H6.out.1.keep f7' (fun e => H6.out.2.2.2.1.ne_blk H6.out.1 e.symm)
        have hbp7 := H6.out.2.1.keep f7' (fun e => H6.out.2.2.2.1.ne_blk H6.out.2.1 e.symm)
        have hS7 : w7.cell? ⟨w.heap.size, 0, none⟩ = some (.pointer (some ⟨p, 0, none⟩)) ∧ w7.cell? ⟨p, 5, none⟩ = some (.map (some M2)) ∧ w7.cell? ⟨p, 4, none⟩ = some (.map (some M1)) := ⟨by rw [hbp7.cell]; rfl, (pl_cells hpl7).2.2.2.2.2.1, (pl_cells hpl7).2.2.2.2.1⟩
        refine ⟨_, rfl, hS7, ?_⟩
        (simp only [sA, sB, sC])
        refine wpAnyH_done (by kernel_rfl) ?_ _
        have hm17 := H6.out.2.2.1.keep f7' HS.out.2.2.1
        have H7 := Lib.hid (And.intro hpl7 (And.intro hm27 (And.intro hm17 f7')))
        obtain ⟨hS7a, hS7b, hS7c⟩ := hS7
        clear hS6 hk5 hk4' HCP hS0 hm27 f7 f7' hpl7 hbp7 hm17 hS7b
        go_wp2_with (refine wpList_pm_clear rfl (.tmp 68) rfl H7.out.2.2.1 rfl ?_; intro w8 hm8 f8; have H8 := Lib.hid (And.intro hm8 f8); clear hm8 f8 hS7a hS7c)
        go_ret
        refine ⟨0, rfl, ?_⟩
        rw [HCR.out]
        have hokl : (ckOk d z c N f2 && (ckD d z c N f2).settles (1 + 0) (rowS (c + 1) ([] : List (Nat × List Chg)).length (chgs f1 l))) = true := by have := HOK.out.1; rw [HOK.out.2] at this; rw [HCKF.out.1, ← HCKF.out.2, Bool.true_and]; exact this.symm
        obtain ⟨hpl6, hbp6, hm16, hm26, hdt6, hfr6, hF6, hlg6, hb5⟩ := H6.out
        obtain ⟨hpl7, hm27, hm17, f7⟩ := H7.out
        obtain ⟨hm8, f8⟩ := H8.out
        have hne := HS.out.2.2.1
        have f78 : Fr (fun b => b = M2 ∨ b = M1) w6 w8 := (f7.mono (fun _ _ q => .inl q)).trans f8 (fun _ _ q => .inr q)
        have hnb : ∀ b t cs, Blk w6 b t cs → ¬ (b = M2 ∨ b = M1) := fun b t cs hb q => q.elim (fun e => hm26.ne_blk hb e.symm) (fun e => hm16.ne_blk hb e.symm)
        have hn4 : needN ((bytesR r).length : Nat) = need := by rw [HOK.out.2]; exact HR.out.2.2.2.1.symm
        refine ⟨v5, by rw [hokl]; rfl, hpl6.keep f78 (hnb _ _ _ hpl6), hb5, fun _ => ⟨?_, hm8, hm27.keep f8 (fun e => hne e.symm), hfr6.keep f78 (fun k hk q => ?_) (fun k cs hk q => hnb _ _ _ hk q)⟩, ⟨P4, (by rw [HCKF.out.1, if_pos rfl, ← HCKF.out.2, ← HOK.out.2]; exact hdt6.keep' f78 (fun b hb q => (H4.out.2.2.2.2.2.2.1 b hb).elim (fun y => q.elim (fun e => HS.out.2.1 (e ▸ y)) (fun e => HS.out.1 (e ▸ y))) (fun y => by have h1 := HS.out.2.2.2.2.2.1; have h2 := HS.out.2.2.2.2.2.2.1; omega))), H4.out.2.2.2.2.2.2.1⟩, hF6.trans f78 (fun _ _ q => .inr (.inr (.inr (q.elim (fun e => .inr (.inl e)) .inl))))⟩
        · have := hlg6.keep f78 (hnb _ _ _ hlg6)
          rw [hn4] at this
          exact this
        · have hvk := HS.out.2.2.2.2.1 k (hb5 ▸ hk)
          exact q.elim (fun e => hvk.2.2.2.1 e) (fun e => hvk.2.2.1 e)
end
end Go.Proofs.YtcnlgbjkjlbmbaaGreat

namespace Go.Proofs.YtcnlgbjkjlbmbaaGreat
open Go.RowKit

section
variable {w : World} {p g z fr lb M1 M2 : Nat} {v : Value} {dd : Bool}
set_option maxRecDepth 100000 in
theorem plct_dead {B : Nat} {P : Nat → Prop} {d : DS} (h : PlB w p g z fr lb M1 M2 v dd) (hd : DAt w B P g d) (ha : (dd || d.dd) = true) : Calls Tryz.prog 21 #[.pointer (some ⟨p, 0, none⟩)] w fun e w' => e = .returned (.int .i64 10) ∧ PlB w' p g z fr lb M1 M2 v true ∧ Fr (fun b => b = p) w w' := by
 have HR := Lib.hid (plrefuses_any h hd)
 rw [ha] at HR
 clear h hd ha
 go_enter Tryz.func21, Tryz.ntmps21
 go_wp2_with fail
 refine HR.out.mono ?_
 rintro e w2 ⟨rfl, h2, f2⟩
 have H2 := Lib.hid (And.intro h2 f2)
 clear h2 f2
 go_wp2_with fail
 go_ret
 exact ⟨rfl, H2.out.1, H2.out.2⟩
set_option maxRecDepth 100000 in
theorem plct_no {B N : Nat} {P : Nat → Prop} {d : DS} {f1 : Nat → List UInt8} (h : PlB w p g z fr lb M1 M2 v dd) (hd : DAt w B P g d) (hm : PMap w M1 N f1) (ha : (dd || d.dd) = false) (hz : z ≤ 4000) (hN : N ≤ 8192) (hno : (openF f1 N).length = 0 ∨ 60 < (openF f1 N).length ∨ z < wneedN ((openF f1 N).length : Nat)) : Calls Tryz.prog 21 #[.pointer (some ⟨p, 0, none⟩)] w fun e w' => e = .returned (.int .i64 (if (openF f1 N).length = 0 then 0 else if 60 < (openF f1 N).length then 3 else 8)) ∧ PlB w' p g z fr lb M1 M2 v false ∧ Fr (fun b => b = p) w w' := by
 have HR := Lib.hid (plrefuses_any h hd)
 rw [ha] at HR
 have HM := Lib.hid (And.intro hm (hm.ne_blk h))
 obtain ⟨m, hm'⟩ : ∃ m, m = (openF f1 N).length := ⟨_, rfl⟩
 have hmN : m ≤ N := by
  have : (openF f1 N).length ≤ (List.range N).length := List.length_filter_le _ _
  rw [List.length_range] at this
  omega
 rw [← hm'] at hno ⊢
 obtain ⟨r, hr⟩ : ∃ r : Int, r = if m = 0 then 0 else if 60 < m then 3 else 8 := ⟨_, rfl⟩
 rw [← hr]
 obtain ⟨nd, hnd⟩ : ∃ nd, nd = wneedN (m : Nat) := ⟨_, rfl⟩
 have HW := Lib.hid fun w' => wneed_any w' (m : Int)
 rw [← hnd] at HW hno
 have HRR := Lib.hid (And.intro hr hm')
 clear h hd hm ha hr hm' hnd
 go_enter Tryz.func21, Tryz.ntmps21
 go_wp2_with fail
 refine HR.out.mono ?_
 rintro e w2 ⟨rfl, h2, f2⟩
 have k4 := (pl_cells h2).2.2.2.2.1
 have k1 := (pl_cells h2).2.1
 have hm2 := HM.out.1.keep f2 HM.out.2
 have H2 := Lib.hid (And.intro h2 (And.intro f2 hm2))
 clear h2 f2 hm2 HR
 by_cases h0 : m = 0
 · have hb0 : ((m : Int) == 0) = true := by simp [h0]
   have hr0 : r = 0 := by rw [HRR.out.1, if_pos h0]
   have HE := Lib.hid hr0
   clear hr0 h0 hno
   go_wp2_with (refine wpList_pm_len rfl (.tmp 14) rfl H2.out.2.2 rfl ?_; rw [← HRR.out.2])
   refine (HW.out _).mono ?_
   rintro e w3 ⟨rfl, rfl⟩
   go_wp2_with (refine wpList_pm_len rfl (.tmp 21) rfl H2.out.2.2 rfl ?_; rw [← HRR.out.2])
   go_ret
   exact ⟨by rw [HE.out]; rfl, H2.out.1, H2.out.2.1⟩
 · have hb0 : ((m : Int) == 0) = false := by rw [beq_eq_false_iff_ne]; omega
   by_cases h6 : 60 < m
   · have h6' : (60 : Int) < (m : Int) := by omega
     have hr0 : r = 3 := by rw [HRR.out.1, if_neg h0, if_pos h6]
     have HE := Lib.hid hr0
     clear hr0 h0 h6 hno
     go_wp2_with (refine wpList_pm_len rfl (.tmp 14) rfl H2.out.2.2 rfl ?_; rw [← HRR.out.2])
     refine (HW.out _).mono ?_
     rintro e w3 ⟨rfl, rfl⟩
     go_wp2_with (first
      | (refine wpList_pm_len rfl (.tmp 21) rfl H2.out.2.2 rfl ?_; rw [← HRR.out.2])
      | (refine wpList_pm_len rfl (.tmp 28) rfl H2.out.2.2 rfl ?_; rw [← HRR.out.2]))
     go_ret
     exact ⟨by rw [HE.out]; rfl, H2.out.1, H2.out.2.1⟩
   · have h6' : ¬ (60 : Int) < (m : Int) := by omega
     have hzn : (z : Int) < (nd : Int) := by omega
     have hr0 : r = 8 := by rw [HRR.out.1, if_neg h0, if_neg h6]
     have HE := Lib.hid hr0
     clear hr0 h0 h6 hno
     go_wp2_with (refine wpList_pm_len rfl (.tmp 14) rfl H2.out.2.2 rfl ?_; rw [← HRR.out.2])
     refine (HW.out _).mono ?_
     rintro e w3 ⟨rfl, rfl⟩
     go_wp2_with (first
      | (refine wpList_pm_len rfl (.tmp 21) rfl H2.out.2.2 rfl ?_; rw [← HRR.out.2])
      | (refine wpList_pm_len rfl (.tmp 28) rfl H2.out.2.2 rfl ?_; rw [← HRR.out.2]))
     go_ret
     exact ⟨by rw [HE.out]; rfl, H2.out.1, H2.out.2.1⟩
set_option maxRecDepth 100000 in
set_option maxHeartbeats 4000000 in
theorem plct_go {B N c s us mm : Nat} {P : Nat → Prop} {d : DS} {f1 : Nat → List UInt8} {R : Int → Value → World → Prop} (h : PlB w p g z fr lb M1 M2 v dd) (hd : DAt w B P g d) (hl : LgW w lb g z c s us mm false) (hm : PMap w M1 N f1) (ha : (dd || d.dd) = false) (hz : z ≤ 4000) (hN : N ≤ 8192) (hus : us ≤ z) (hc : c < maxC) (h1 : 1 ≤ (openF f1 N).length) (h6 : (openF f1 N).length ≤ 60) (hnz : wneedN ((openF f1 N).length : Nat) ≤ z)
 (HC : ∀ w2, PlB w2 p g z fr lb M1 M2 v false → Fr (fun b => b = p) w w2 → Calls Tryz.prog 54 #[.pointer (some ⟨p, 0, none⟩), .int .i64 (wneedN ((openF f1 N).length : Nat) : Nat)] w2 fun en w' => ∃ v' r, en = .returned (.int .i64 r) ∧ PlB w' p g z fr lb M1 M2 v' false ∧ R r v' w') :
 Calls Tryz.prog 21 #[.pointer (some ⟨p, 0, none⟩)] w fun e w'' => ∃ v' r w', e = .returned (.int .i64 r) ∧ R r v' w' ∧ PlB w'' p g z fr lb M1 M2 v' (r != 0) ∧ Fr (fun b => b = p) w' w'' := by
 have HR := Lib.hid (plrefuses_any h hd)
 rw [ha] at HR
 have HM := Lib.hid (And.intro hm (And.intro (hm.ne_blk h) (And.intro hl (h.ne_ hl (by decide)))))
 obtain ⟨m, hm'⟩ : ∃ m, m = (openF f1 N).length := ⟨_, rfl⟩
 rw [← hm'] at h1 h6 hnz HC
 obtain ⟨nd, hnd⟩ : ∃ nd, nd = wneedN (m : Nat) := ⟨_, rfl⟩
 have HW := Lib.hid fun w' => wneed_any w' (m : Int)
 rw [← hnd] at HW hnz HC
 have HCC := Lib.hid HC
 have HRR := Lib.hid hm'
 have hb0 : ((m : Int) == 0) = false := by rw [beq_eq_false_iff_ne]; omega
 have h6' : ¬ (60 : Int) < (m : Int) := by omega
 have hzn : ¬ (z : Int) < (nd : Int) := by omega
 clear h hd hm hl ha hm' hnd HC
 go_enter Tryz.func21, Tryz.ntmps21
 go_wp2_with fail
 refine HR.out.mono ?_
 rintro e w2 ⟨rfl, h2, f2⟩
 have k4 := (pl_cells h2).2.2.2.2.1
 have k1 := (pl_cells h2).2.1
 have k3 := (pl_cells h2).2.2.2.1
 have hm2 := HM.out.1.keep f2 HM.out.2.1
 have hl2 := HM.out.2.2.1.keep f2 (fun e => HM.out.2.2.2 e.symm)
 have HRO := Lib.hid (plroom_any h2 hl2 hus hz)
 have H2 := Lib.hid (And.intro h2 (And.intro f2 (And.intro hm2 hl2)))
 clear h2 f2 hm2 hl2 HR
 go_wp2_with (refine wpList_pm_len rfl (.tmp 14) rfl H2.out.2.2.1 rfl ?_; rw [← HRR.out])
 refine (HW.out _).mono ?_
 rintro e w3 ⟨rfl, rfl⟩
 go_wp2_with (first
  | (refine wpList_pm_len rfl (.tmp 21) rfl H2.out.2.2.1 rfl ?_; rw [← HRR.out])
  | (refine wpList_pm_len rfl (.tmp 28) rfl H2.out.2.2.1 rfl ?_; rw [← HRR.out]))
 refine HRO.out.mono ?_
 rintro e w3 ⟨rfl, hw3⟩
 have f3 : Fr (fun _ => False) w2 w3 := by rw [hw3]; exact (Fr.refl _ _).drew
 have hp3 := H2.out.1.keep f3 (fun q => q)
 have HCM := Lib.hid (HCC.out w3 hp3 (H2.out.2.1.trans f3 (fun _ _ q => q.elim)))
 have HSP := Lib.hid (pspent_any (H2.out.2.2.2.keep f3 (fun q => q)) hc)
 have k3' := (pl_cells hp3).2.2.2.1
 clear f3 hp3 hw3 HRO k1 k3 k4
 by_cases hnr : ((z - us : Nat) : Int) < (nd : Int)
 · go_wp2_with fail
   refine HSP.out.mono ?_
   rintro e w4 ⟨rfl, rfl⟩
   go_wp2_with fail
   clear k3'
   refine HCM.out.mono ?_
   rintro e w5 ⟨v5, r, rfl, hp5, hR⟩
   have z7 := hp5.frozen 7
   have k7 := (pl_cells hp5).2.2.2.2.2.2.2
   have hp6 : PlB (w5.setCell ⟨p, 7, none⟩ (.bool (r != 0))) p g z fr lb M1 M2 v5 (r != 0) := hp5.set_ 7 (.bool (r != 0))
   have f6 := (Fr.refl (fun b => b = p) w5).setCell (p := ⟨p, 7, none⟩) (.inl rfl) (.bool (r != 0))
   have H6 := Lib.hid (And.intro hR (And.intro hp6 f6))
   clear hR hp6 f6 hp5
   go_wp2_with fail
   go_ret
   exact ⟨v5, r, w5, rfl, H6.out.1, H6.out.2.1, H6.out.2.2⟩
 · go_wp2_with fail
   clear k3'
   refine HCM.out.mono ?_
   rintro e w5 ⟨v5, r, rfl, hp5, hR⟩
   have z7 := hp5.frozen 7
   have k7 := (pl_cells hp5).2.2.2.2.2.2.2
   have hp6 : PlB (w5.setCell ⟨p, 7, none⟩ (.bool (r != 0))) p g z fr lb M1 M2 v5 (r != 0) := hp5.set_ 7 (.bool (r != 0))
   have f6 := (Fr.refl (fun b => b = p) w5).setCell (p := ⟨p, 7, none⟩) (.inl rfl) (.bool (r != 0))
   have H6 := Lib.hid (And.intro hR (And.intro hp6 f6))
   clear hR hp6 f6 hp5
   go_wp2_with fail
   go_ret
   exact ⟨v5, r, w5, rfl, H6.out.1, H6.out.2.1, H6.out.2.2⟩
set_option maxRecDepth 100000 in
theorem plce_dead {B : Nat} {P : Nat → Prop} {d : DS} (h : PlB w p g z fr lb M1 M2 v dd) (hd : DAt w B P g d) (ha : (dd || d.dd) = true) : Calls Tryz.prog 23 #[.pointer (some ⟨p, 0, none⟩)] w fun e w' => e = .returned (.int .i64 10) ∧ PlB w' p g z fr lb M1 M2 v true ∧ Fr (fun b => b = p) w w' := by
 have HR := Lib.hid (plrefuses_any h hd)
 rw [ha] at HR
 clear h hd ha
 go_enter Tryz.func23, Tryz.ntmps23
 go_wp2_with fail
 refine HR.out.mono ?_
 rintro e w2 ⟨rfl, h2, f2⟩
 have H2 := Lib.hid (And.intro h2 f2)
 clear h2 f2
 go_wp2_with fail
 go_ret
 exact ⟨rfl, H2.out.1, H2.out.2⟩
set_option maxRecDepth 100000 in
theorem plce_busy {B N c s us mm : Nat} {P : Nat → Prop} {d : DS} {f1 : Nat → List UInt8} (h : PlB w p g z fr lb M1 M2 v dd) (hd : DAt w B P g d) (hl : LgW w lb g z c s us mm false) (hm : PMap w M1 N f1) (ha : (dd || d.dd) = false) (hc : c < maxC) (h1 : 1 ≤ (openF f1 N).length) : Calls Tryz.prog 23 #[.pointer (some ⟨p, 0, none⟩)] w fun e w' => e = .returned (.int .i64 17) ∧ PlB w' p g z fr lb M1 M2 v false ∧ Fr (fun b => b = p) w w' := by
 have HR := Lib.hid (plrefuses_any h hd)
 rw [ha] at HR
 have HM := Lib.hid (And.intro hm (And.intro (hm.ne_blk h) (And.intro hl (h.ne_ hl (by decide)))))
 obtain ⟨m, hm'⟩ : ∃ m, m = (openF f1 N).length := ⟨_, rfl⟩
 rw [← hm'] at h1
 have h1' : (0 : Int) < (m : Int) := by omega
 have HRR := Lib.hid hm'
 clear h hd hm hl ha hm'
 go_enter Tryz.func23, Tryz.ntmps23
 go_wp2_with fail
 refine HR.out.mono ?_
 rintro e w2 ⟨rfl, h2, f2⟩
 have k4 := (pl_cells h2).2.2.2.2.1
 have k3 := (pl_cells h2).2.2.2.1
 have hm2 := HM.out.1.keep f2 HM.out.2.1
 have HSP := Lib.hid (pspent_any (HM.out.2.2.1.keep f2 (fun e => HM.out.2.2.2 e.symm)) hc)
 have H2 := Lib.hid (And.intro h2 (And.intro f2 hm2))
 clear h2 f2 hm2 HR
 go_wp2_with fail
 refine HSP.out.mono ?_
 rintro e w4 ⟨rfl, rfl⟩
 go_wp2_with (refine wpList_pm_len rfl (.tmp 20) rfl H2.out.2.2 rfl ?_; rw [← HRR.out])
 go_ret
 exact ⟨rfl, H2.out.1, H2.out.2.1⟩
set_option maxRecDepth 100000 in
set_option maxHeartbeats 4000000 in
theorem plce_go {B N c s us mm : Nat} {P : Nat → Prop} {d : DS} {f1 : Nat → List UInt8} {R : Int → World → Prop} (h : PlB w p g z fr lb M1 M2 v dd) (hd : DAt w B P g d) (hl : LgW w lb g z c s us mm false) (hm : PMap w M1 N f1) (ha : (dd || d.dd) = false) (hc : c < maxC) (h1 : (openF f1 N).length = 0)
 (HC : ∀ w2, PlB w2 p g z fr lb M1 M2 v false → Fr (fun b => b = p) w w2 → Calls Tryz.prog 46 #[.pointer (some ⟨p, 0, none⟩)] w2 fun en w' => ∃ r, en = .returned (.int .i64 r) ∧ PlB w' p g z fr lb M1 M2 v false ∧ R r w') :
 Calls Tryz.prog 23 #[.pointer (some ⟨p, 0, none⟩)] w fun e w'' => ∃ r w', e = .returned (.int .i64 r) ∧ R r w' ∧ PlB w'' p g z fr lb M1 M2 v (r != 0) ∧ Fr (fun b => b = p) w' w'' := by
 have HR := Lib.hid (plrefuses_any h hd)
 rw [ha] at HR
 have HM := Lib.hid (And.intro hm (And.intro (hm.ne_blk h) (And.intro hl (h.ne_ hl (by decide)))))
 obtain ⟨m, hm'⟩ : ∃ m, m = (openF f1 N).length := ⟨_, rfl⟩
 rw [← hm'] at h1
 have h1' : ¬ (0 : Int) < (m : Int) := by omega
 have HRR := Lib.hid hm'
 have HCC := Lib.hid HC
 clear h hd hm hl ha hm' HC
 go_enter Tryz.func23, Tryz.ntmps23
 go_wp2_with fail
 refine HR.out.mono ?_
 rintro e w2 ⟨rfl, h2, f2⟩
 have k4 := (pl_cells h2).2.2.2.2.1
 have k3 := (pl_cells h2).2.2.2.1
 have hm2 := HM.out.1.keep f2 HM.out.2.1
 have HSP := Lib.hid (pspent_any (HM.out.2.2.1.keep f2 (fun e => HM.out.2.2.2 e.symm)) hc)
 have HCM := Lib.hid (HCC.out w2 h2 f2)
 have H2 := Lib.hid (And.intro h2 (And.intro f2 hm2))
 clear h2 f2 hm2 HR
 go_wp2_with fail
 refine HSP.out.mono ?_
 rintro e w4 ⟨rfl, rfl⟩
 go_wp2_with (refine wpList_pm_len rfl (.tmp 20) rfl H2.out.2.2 rfl ?_; rw [← HRR.out])
 clear k3 k4
 refine HCM.out.mono ?_
 rintro e w5 ⟨r, rfl, hp5, hR⟩
 have z7 := hp5.frozen 7
 have k7 := (pl_cells hp5).2.2.2.2.2.2.2
 have hp6 : PlB (w5.setCell ⟨p, 7, none⟩ (.bool (r != 0))) p g z fr lb M1 M2 v (r != 0) := hp5.set_ 7 (.bool (r != 0))
 have f6 := (Fr.refl (fun b => b = p) w5).setCell (p := ⟨p, 7, none⟩) (.inl rfl) (.bool (r != 0))
 have H6 := Lib.hid (And.intro hR (And.intro hp6 f6))
 clear hR hp6 f6 hp5
 go_wp2_with fail
 go_ret
 exact ⟨r, w5, rfl, H6.out.1, H6.out.2.1, H6.out.2.2⟩
end
end Go.Proofs.YtcnlgbjkjlbmbaaGreat


