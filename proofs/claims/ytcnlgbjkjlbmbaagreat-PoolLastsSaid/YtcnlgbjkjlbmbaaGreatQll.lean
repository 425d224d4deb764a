/- PoolLasts. -/
import Derived.Test.YtcnlgbjkjlbmbaaGreatQlx
namespace Go.Proofs.YtcnlgbjkjlbmbaaGreat
open Go.RowKit

theorem DT.fused {w : World} {B g : Nat} {P : Nat → Prop} {d : DS} (h : DT w B g d P) (v : Int) (h0 : 0 ≤ v) (h1 : v ≤ 9223372036854775807) : Calls Tryz.prog 11 #[.pointer (some ⟨g, 0, none⟩), .int .i64 v] w fun e w' => e = .returned (.int .i64 0) ∧ (∃ P', DT w' B g { d with fu := true, lf := v } P') ∧ Fr P w w' := by
 refine (afuse_any h.1 v (by omega) h1).mono ?_
 rintro en wf ⟨rfl, hdf, ff⟩
 obtain ⟨Pf, hdf', _⟩ := DT.of (S := 0) (P0 := P) hdf (fun b q => .inl q)
 exact ⟨rfl, ⟨Pf, hdf'⟩, ff⟩
theorem DR.fused {d : DS} {z c s e N K : Nat} {q : List (Nat × List Chg)} (h : DR d z c s q e N K) (v : Int) : DR { d with fu := true, lf := v } z c s q e N K ∧ (CD { d with fu := true, lf := v } z N q = CD d z N q) := ⟨h.after (h.ri.same (d' := { d with fu := true, lf := v }) rfl h.ri.vs) rfl h.cK, rfl⟩
theorem SameP.next {x y z : PX} (h : SameP x y) (h' : SameP y z) : SameP x z := ⟨h'.N.trans h.N, h'.z.trans h.z, h'.f1.trans h.f1, h'.f2.trans h.f2, fun n => (h'.C n).trans (h.C n)⟩
def LifesOk (xs : List LifeD) (k : Nat) : Prop := ∀ j x, j < k → xs[j]? = some x → x.ss.length ≤ 15 ∧ (∀ y ∈ x.ss, y.n ≤ 600) ∧ x.ps.length ≤ 400
theorem fewB_iff {xs : List ActR} (h : fewB xs 15 = true) : xs.length ≤ 15 ∧ ∀ y ∈ xs, y.n ≤ 600 := by
 unfold fewB at h
 simp only [Bool.and_eq_true, decide_eq_true_eq] at h
 exact ⟨h.2, h.1⟩
theorem openF_none {N : Nat} {f : Nat → List UInt8} (h : f = fun _ => []) : openF f N = [] := by rw [h, openF_nil]
def BtQ (w : World) (B g z N K : Nat) (v : Value) : Prop := ∃ P d c s q e pgs, DT w B g d P ∧ DR d z c s q e N K ∧ PgsV w v pgs ∧ OT 50 w v ∧ pgs = (List.range N).map (CD d z N q)
set_option maxRecDepth 100000 in
set_option maxHeartbeats 16000000 in
theorem lasts6_any {w : World} {v : Value} {xs : List LifeD} (pages z frs : Int) (hx : LifV w v xs) : Calls Tryz.prog 3 #[.int .i64 pages, .int .i64 z, .int .i64 frs, v] w fun e w' => e = .returned (.bool true) ∧ Fr (fun _ => False) w w' := by
 have HX := Lib.hid hx
 obtain ⟨A, cap, rfl, hxm, _⟩ := hx
 have h9 : xs.length ≤ 9223372036854775807 := by simp only [maxLen] at hxm; omega
 obtain ⟨n, hn⟩ : ∃ n, n = xs.length := ⟨_, rfl⟩
 have HFT := Lib.hid (lfits_any w pages z)
 obtain ⟨tf, htf⟩ : ∃ tf, tf = fitsB pages z := ⟨_, rfl⟩
 rw [← htf] at HFT
 rw [← hn] at HX h9 ⊢
 have HN := Lib.hid (And.intro hn htf)
 clear hxm hn htf
 go_enter Tryz.func3, Tryz.ntmps3
 go_wp2_with fail
 refine HFT.out.mono ?_
 rintro e w0 ⟨rfl, rfl⟩
 clear HFT
 cases tf with
 | false =>
   go_wp2_with fail
   refine (known_any _).mono ?_
   rintro e w9 ⟨rfl, f9⟩
   have H9 := Lib.hid f9
   clear f9
   go_wp2_with fail
   go_ret
   exact ⟨rfl, H9.out⟩
 | true =>
   by_cases h1 : frs < 2
   · go_wp2_with fail
     refine (known_any _).mono ?_
     rintro e w9 ⟨rfl, f9⟩
     have H9 := Lib.hid f9
     clear f9
     go_wp2_with fail
     go_ret
     exact ⟨rfl, H9.out⟩
   by_cases h2 : frs > 100
   · go_wp2_with fail
     refine (known_any _).mono ?_
     rintro e w9 ⟨rfl, f9⟩
     have H9 := Lib.hid f9
     clear f9
     go_wp2_with fail
     go_ret
     exact ⟨rfl, H9.out⟩
   by_cases h3 : (n : Int) > 5
   · go_wp2_with fail
     refine (known_any _).mono ?_
     rintro e w9 ⟨rfl, f9⟩
     have H9 := Lib.hid f9
     clear f9
     go_wp2_with fail
     go_ret
     exact ⟨rfl, H9.out⟩
   obtain ⟨hp4, hp8, hz4, hz8⟩ : 4 ≤ pages ∧ pages ≤ 80 ∧ 4 ≤ z ∧ z ≤ 400 := by
    have := HN.out.2
    unfold fitsB at this
    simpa [Bool.and_eq_true, decide_eq_true_eq, and_assoc] using this.symm
   obtain ⟨N, rfl⟩ : ∃ N : Nat, pages = N := ⟨pages.toNat, by omega⟩
   obtain ⟨Z, rfl⟩ : ∃ Z : Nat, z = Z := ⟨z.toNat, by omega⟩
   obtain ⟨fr, rfl⟩ : ∃ fr : Nat, frs = fr := ⟨frs.toNat, by omega⟩
   have hn5 : n ≤ 5 := by omega
   have hN4 : 4 ≤ N := by omega
   have hN8 : N ≤ 80 := by omega
   have hZ4 : 4 ≤ Z := by omega
   have hZ8 : Z ≤ 400 := by omega
   have hf2 : 2 ≤ fr := by omega
   have hf1 : fr ≤ 100 := by omega
   clear hp4 hp8 hz4 hz8
   go_wp2_with fail
   go_loopw [9] (fun i wr => ∃ k : Nat, i = .int .i64 k ∧ k ≤ n ∧ Hid (LifesOk xs k) ∧ Hid (Fr (fun _ => False) w wr)) (fun i _ => n - (intOf i).toNat)
   case atStart => exact ⟨0, rfl, Nat.zero_le _, Lib.hid (fun j x hj => absurd hj (by omega)), Lib.hid (Fr.refl _ _)⟩
   case round =>
    obtain ⟨k, rfl, hk, HV, HF⟩ := hrel
    by_cases hlt : k < n
    · obtain ⟨x, hx⟩ : ∃ x, xs[k]? = some x := ⟨_, List.getElem?_eq_getElem (by have := HN.out.1; omega)⟩
      obtain ⟨b, off, hAe, hs0⟩ := HX.out.at_ hx
      have hs := hs0.old (Nat.le_refl _) (HF.out.mono (fun _ _ q => q.elim))
      have hP : Hid (∀ W, Fr (fun _ => False) wr W → W.cell? ⟨b, off + k * 3 + 2, none⟩ = some x.pv) := Lib.hid fun W f => (f.cell (World.block_lt_of_cell? wr _ hs.c2) (fun q => q)).trans hs.c2
      obtain ⟨As, cps, hsv, hsm, _⟩ := hs.s
      obtain ⟨Ap, cp, hpv, hpm, _⟩ := hs.p
      have c1 := hs.c1
      have HL := Lib.hid (few_any hs.s 15)
      obtain ⟨tb, htb⟩ : ∃ tb, tb = fewB x.ss 15 := ⟨_, rfl⟩
      rw [hsv] at c1
      rw [hsv, ← htb] at HL
      rw [hpv] at hP
      obtain ⟨ns, hns⟩ : ∃ ns, ns = x.ss.length := ⟨_, rfl⟩
      obtain ⟨np, hnp⟩ : ∃ np, np = x.ps.length := ⟨_, rfl⟩
      rw [← hns] at c1 HL
      rw [← hnp] at hP
      have hp9 : np ≤ 9223372036854775807 := by simp only [maxLen] at hpm; omega
      have HY := Lib.hid (And.intro hx (And.intro htb hnp))
      have hi0 : (0 : Int) ≤ (k : Int) := by omega
      have hi1 : (k : Int) < (n : Int) := by omega
      subst hAe
      clear hx hs0 hs hsv hsm hpv hpm hns hnp htb hlt
      go_wp2_with fail
      refine HL.out.mono ?_
      rintro en w2 ⟨rfl, f2⟩
      have c2 := hP.out w2 f2
      have H2 := Lib.hid (HF.out.trans f2 (fun _ _ q => q))
      clear f2 HL c1
      cases tb with
      | false =>
        go_wp2_with fail
        refine (known_any _).mono ?_
        rintro e w9 ⟨rfl, f9⟩
        have H9 := Lib.hid f9
        clear f9
        go_wp2_with fail
        go_ret
        exact ⟨rfl, H2.out.trans H9.out (fun _ _ q => q)⟩
      | true =>
        by_cases a1 : (400 : Int) < (np : Int)
        · go_wp2_with fail
          refine (known_any _).mono ?_
          rintro e w9 ⟨rfl, f9⟩
          have H9 := Lib.hid f9
          clear f9
          go_wp2_with fail
          go_ret
          exact ⟨rfl, H2.out.trans H9.out (fun _ _ q => q)⟩
        · go_wp2_with fail
          refine ⟨⟨k + 1, by norm_cast, by omega, Lib.hid (fun j y hj hy => ?_), H2⟩, ?_⟩
          · by_cases hjk : j < k
            · exact HV.out j y hjk hy
            · have : j = k := by omega
              subst this
              rw [HY.out.1] at hy
              injection hy with hy
              subst hy
              have h6 := fewB_iff HY.out.2.1.symm
              exact ⟨h6.1, h6.2, by have := HY.out.2.2; omega⟩
          · simp only [intOf]
            omega
    · obtain rfl : n = k := by omega
      clear hlt
      have HBG := Lib.hid (begun_any wr (pages := N) (z := Z) (fr := fr) hN4 hN8 hZ4 hZ8 hf2 hf1)
      go_wp2_with fail
      refine HBG.out.mono ?_
      rintro en w1 ⟨g, p0, S1, x0, rfl, hA1, hF1, f1⟩
      have hmk := make_pages w1 N (by omega)
      obtain ⟨W2, hW2⟩ : ∃ W2, W2 = w1.alloc (.cells (cellsB (nought (N * 512))).toArray 50) := ⟨_, rfl⟩
      have hpv := pgsV_made w1 N (by omega)
      have hbn := Blk.new w1 50 (cellsB (nought (N * 512))).toArray
      have f2 : Fr (fun _ => False) w1 W2 := by rw [hW2]; exact (Fr.refl _ w1).alloc _
      rw [← hW2] at hmk hpv hbn
      have hbt : BtQ W2 w.heap.size g Z N 3 (.slice (some ⟨w1.heap.size, 0, none⟩) N N) := by
       obtain ⟨_, _, _, _, P, _, _, hd, _⟩ := (hA1.low HF.out.size).parts
       obtain ⟨P2, hd2⟩ := hd.new f2
       have hr := hF1.ok.atRest
       have hr9 : DR x0.d Z x0.c x0.s x0.q x0.e N 3 := by have := hr; rw [hF1.z, hF1.N] at this; exact this
       refine ⟨P2, x0.d, x0.c, x0.s, x0.q, x0.e, List.replicate N (nought 512), hd2, hr9, hpv, fun b hb => ?_, ?_⟩
       · have e : w1.heap.size = b := by simpa [Value.ownBlock] using hb
         exact ⟨_, e ▸ hbn⟩
       · apply List.ext_getElem?
         intro i
         by_cases hi : i < N
         · have h1 := hF1.pg i hi
           have h2 := hF1.ok.cdC i
           rw [hF1.z, hF1.N] at h2
           simp [List.getElem?_replicate, hi, h2, h1]
         · simp [List.getElem?_replicate, hi]
      have hfw : Fr (fun b => w.heap.size ≤ b) w W2 := ((HF.out.trans f1 (fun _ _ q => q)).trans f2 (fun _ _ q => q)).mono (fun _ _ q => q.elim)
      have H2 := Lib.hid (And.intro hbt hfw)
      clear hA1 hF1 f1 hpv hbn f2 hbt hfw hW2 HBG
      go_wp2_with fail
      go_loopw [13, 14] (fun sv i wr => ∃ k : Nat, i = .int .i64 k ∧ k ≤ n ∧ Hid (BtQ wr w.heap.size g Z N (3 + 40 * k) sv) ∧ Hid (Fr (fun b => w.heap.size ≤ b) w wr)) (fun _ i _ => n - (intOf i).toNat)
      case atStart => exact ⟨0, rfl, Nat.zero_le _, Lib.hid H2.out.1, Lib.hid H2.out.2⟩
      case round =>
       clear H2 HF hmk
       obtain ⟨k, rfl, hk, HB, HF⟩ := hrel
       obtain ⟨P1, d1, c1, s1, q1, e1, pgs, hd1, hr1, hpv1, hot1, hpg1⟩ := HB.out
       have hlen : pgs.length = N := by rw [hpg1]; simp
       obtain ⟨Au, cu, hue, _⟩ := id hpv1
       rw [hlen] at hue
       subst hue
       have HB1 := Lib.hid (And.intro hd1 (And.intro hr1 (And.intro hpv1 (And.intro hot1 hpg1))))
       clear hd1 hr1 hpv1 hot1 hpg1 hlen HB
       by_cases hlt : k < n
       · obtain ⟨x, hx⟩ : ∃ x, xs[k]? = some x := ⟨_, List.getElem?_eq_getElem (by have := HN.out.1; omega)⟩
         obtain ⟨b, off, hAe, hs0⟩ := HX.out.at_ hx
         obtain ⟨As, cps, hsv, _, _⟩ := hs0.s
         obtain ⟨Ap, cp, hpv, _, _⟩ := hs0.p
         obtain ⟨ns, hns⟩ : ∃ ns, ns = x.ss.length := ⟨_, rfl⟩
         obtain ⟨np, hnp⟩ : ∃ np, np = x.ps.length := ⟨_, rfl⟩
         rw [← hns] at hsv
         rw [← hnp] at hpv
         have HLA := Lib.hid (And.intro hs0 (And.intro hsv hpv))
         have HOK := Lib.hid (HV.out k x (by omega) hx)
         have hso := hs0.old (Nat.le_refl _) HF.out
         have c0 := hso.c0
         have c1' := hso.c1
         rw [hsv] at c1'
         have hfu1 := hso.f1
         obtain ⟨fu, hfu⟩ : ∃ fu, fu = x.fu := ⟨_, rfl⟩
         rw [← hfu] at c0 hfu1
         have hi0 : (0 : Int) ≤ (k : Int) := by omega
         have hi1 : (k : Int) < (n : Int) := by omega
         subst hAe
         clear hx hs0 hsv hpv hns hnp hso hfu hlt
         by_cases hf : fu < 0
         · have hf' : ¬ (0 : Int) ≤ fu := by omega
           have HLV : Hid (Calls Tryz.prog 12 #[.pointer (some ⟨g, 0, none⟩), .int .i64 (Z : Nat), .int .i64 (fr : Nat), .slice As ns cps, .slice Au N cu] wr fun en w' => ∃ v ms, en = .returned (.tuple #[v, .bool true]) ∧ LvQ wr w' w.heap.size g Z N (3 + 40 * k + 30) v ms) := Lib.hid (live_any6 HB1.out.1 HB1.out.2.1 (by simp only [maxC]; omega) hf2 hf1 (xs := x.ss) (fun w' f => by
            have q := (HLA.out.1.old (Nat.le_refl _) (HF.out.trans f (fun _ _ q => q))).s
            rw [HLA.out.2.1] at q
            exact q) HOK.out.1 HOK.out.2.1 HB1.out.2.2.1 HB1.out.2.2.2.1 HB1.out.2.2.2.2 hN8 HF.out.size)
           have HF2 := Lib.hid HF.out
           clear HB1 hfu1
           go_wp2_with fail
           refine HLV.out.mono ?_
           rintro en w3 ⟨vm, ms, rfl, hms, ⟨P3, d3, hd3, haf, hmo⟩, f3, hml⟩
           have hF3 : Fr (fun b => w.heap.size ≤ b) w w3 := HF2.out.trans f3 (fun _ _ q => q)
           have hl3 := HLA.out.1.old (Nat.le_refl _) hF3
           have c2 := hl3.c2
           rw [HLA.out.2.2] at c2
           have HCR := Lib.hid (acrash_p1 hd3.1 (vp := .slice Ap np cp) (picks := x.ps) (by have q := hl3.p; rw [HLA.out.2.2] at q; exact q) (fun b hb hp0 q => by
            have h1 := HLA.out.1.pl b (by rw [HLA.out.2.2]; exact hb) hp0
            have h2 := (hd3.1.2 b q).1
            omega) hmo)
           obtain ⟨c5, s5, q5, e5, hr5, hm5⟩ := haf x.ps
           have hms' := hms
           obtain ⟨bm, cm, hvm, hm2, _, _⟩ := hms'
           obtain ⟨nm, hnm⟩ : ∃ nm, nm = ms.length := ⟨_, rfl⟩
           rw [← hnm] at hvm hm2
           subst hvm
           have H3 := Lib.hid (And.intro hd3 (And.intro hms (And.intro hF3 (And.intro hnm hml))))
           have H5 := Lib.hid (And.intro hr5 hm5)
           have hm9 : nm ≤ 2 := hm2
           clear hms hd3 haf hmo f3 hF3 hl3 hm2 hnm hml hr5 hm5 HLV c0 c1' hf hf'
           go_wp2_with fail
           refine HCR.out.mono ?_
           rintro en w4 ⟨rfl, hd4, f4⟩
           obtain ⟨P4, hd4', _⟩ := DT.of (S := 0) (P0 := P3) hd4 (fun b q => .inl q)
           have hms4 := H3.out.2.1.keep f4 H3.out.1.off
           have hF4 : Fr (fun b => w.heap.size ≤ b) w w4 := H3.out.2.2.1.trans f4 (fun b _ q => (H3.out.1.1.2 b q).1)
           have HO := Lib.hid (pa_open (fr := fr) hd4' H5.out.1 (by simp only [maxC]; omega) hf2 hf1)
           have hok := (op_free (crash_free d3 x.ps) Z fr c5 s5 e5 N q5).1
           rw [hok, if_pos rfl] at HO
           have H4 := Lib.hid (And.intro hd4' (And.intro hms4 (And.intro hF4 hok)))
           clear hd4 hd4' f4 hms4 hF4 HCR c2 hok
           go_wp2_with fail
           refine HO.out.mono ?_
           rintro en w5 ⟨v5, rfl, f5, _, o2⟩
           obtain ⟨p, S5, rfl, hA5, _⟩ := o2 trivial
           obtain ⟨x5, hx5⟩ : ∃ x5, x5 = opP (d3.crash x.ps) Z fr c5 s5 e5 N q5 := ⟨_, rfl⟩
           obtain ⟨t1, t2, t3, t4, t5⟩ := opP_parts (d := d3.crash x.ps) (z := Z) (fr := fr) (c := c5) (s := s5) (e := e5) (N := N) (q := q5)
           have hop := H5.out.1.opened (fr := fr) (by simp only [maxC]; omega) hf2 hf1 H4.out.2.2.2
           rw [← hx5] at hA5 t1 t2 t3 t4 t5 hop
           have hpg5 : pagesOf x5 ∈ ms := by
            have : pagesOf x5 = (List.range N).map (CD (d3.crash x.ps) Z N q5) := by
             unfold pagesOf
             rw [t2]
             exact List.map_congr_left fun i hi => hop.2.1 i (List.mem_range.1 hi)
            rw [this]
            exact H5.out.2
           have hms5 := H4.out.2.1.keep f5 H4.out.1.off
           have hF5 : Fr (fun b => w.heap.size ≤ b) w w5 := H4.out.2.2.1.trans f5 (fun b _ q => (H4.out.1.1.2 b q).1)
           have hok5 : x5.Ok (3 + 40 * k + 32) := hop.1
           have H6 := Lib.hid (And.intro hok5 (And.intro t1 (And.intro t2 (And.intro t3 (And.intro t5 (And.intro hpg5 hms5))))))
           have HA6 := Lib.hid (And.intro hA5 hF5)
           obtain ⟨nm', hnm'⟩ : ∃ m, m = ms.length := ⟨_, rfl⟩
           clear o2 hA5 hx5 t1 t2 t3 t4 t5 hop hpg5 hms5 hF5 f5 hok5 HO nm' hnm'
           go_wp2_with fail
           go_loopw [13, 19, 20] (fun sv is kk wr => ∃ (j : Nat) (t : Bool) (y : PX) (S : Nat → Prop) (Au' : Option Addr) (cu' : Nat), kk = .int .i64 j ∧ is = .bool t ∧ sv = .slice Au' N cu' ∧ j ≤ nm ∧ Hid (PA wr w.heap.size S p g y ∧ y.Ok (3 + 40 * k + 32) ∧ SameP x5 y) ∧ Hid (MsP wr (.slice (some ⟨bm, 0, none⟩) nm nm) ms ∧ Fr (fun b => w.heap.size ≤ b) w wr) ∧ Hid (if t = true then PgsV wr (.slice Au' N cu') (pagesOf x5) ∧ OT 50 wr (.slice Au' N cu') else ∀ i, i < j → ms[i]? ≠ some (pagesOf x5))) (fun _ _ kk _ => nm - (intOf kk).toNat)
           case atStart =>
            exact ⟨0, false, x5, S5, Au, cu, rfl, rfl, rfl, Nat.zero_le _, Lib.hid ⟨HA6.out.1, H6.out.1, SameP.refl _⟩, Lib.hid ⟨H6.out.2.2.2.2.2.2, HA6.out.2⟩, Lib.hid (by simp)⟩
           case round =>
            clear HA6
            obtain ⟨j, t, y, S, Au', cu', rfl, rfl, rfl, hj, HP, HM, HT⟩ := hrel
            cases t with
            | true =>
              by_cases hjl : j < nm
              · have hj1 : (j : Int) < (nm : Int) := by omega
                have HC := Lib.hid (pa_changed HP.out.1 HP.out.2.1)
                have e1 : openF y.f1 y.N = [] := openF_none (HP.out.2.2.f1.trans H6.out.2.2.2.1)
                have e2 : openF y.f2 y.N = [] := openF_none (HP.out.2.2.f2.trans H6.out.2.2.2.2.1)
                rw [e1] at HC
                have HT2 := HT.out
                rw [if_pos rfl] at HT2
                have HT3 := Lib.hid HT2
                have HE2 := Lib.hid e2
                clear HT2 HT e1 e2
                go_wp2_with fail
                refine HC.out.mono ?_
                rintro en wa ⟨va, rfl, hoa, fa⟩
                obtain ⟨Aa, ca, hva, _, _⟩ := own_slice hoa
                have hva' : va = .slice Aa 0 ca := hva
                subst hva'
                have hPa := HP.out.1.new fa
                have HDI := Lib.hid (pa_dirty hPa HP.out.2.1)
                rw [HE2.out] at HDI
                have HFa := Lib.hid (And.intro hPa fa)
                clear hva hoa hPa fa HC
                go_wp2_with fail
                refine HDI.out.mono ?_
                rintro en wb ⟨vb, rfl, hob, fb⟩
                obtain ⟨Ab, cb, hvb, _, _⟩ := own_slice hob
                have hvb' : vb = .slice Ab 0 cb := hvb
                subst hvb'
                have HFb := Lib.hid (And.intro (HFa.out.1.new fb) (HFa.out.2.trans fb (fun _ _ q => q)))
                clear hvb hob fb HDI
                go_wp2_with fail
                have hbt : BtQ wb w.heap.size g Z N (3 + 40 * (k + 1)) (.slice Au' N cu') := by
                 obtain ⟨_, _, _, _, P, _, _, hd, _⟩ := HFb.out.1.parts
                 have hr := HP.out.2.1.atRest
                 have hz : y.z = Z := HP.out.2.2.z.trans H6.out.2.1
                 have hN : y.N = N := HP.out.2.2.N.trans H6.out.2.2.1
                 rw [hz, hN] at hr
                 refine ⟨P, y.d, y.c, y.s, y.q, y.e, pagesOf x5, hd, { hr with cK := by have := hr.cK; omega }, HT3.out.1.new HFb.out.2, HT3.out.2.new HFb.out.2, ?_⟩
                 unfold pagesOf
                 rw [H6.out.2.2.1]
                 refine List.map_congr_left fun i hi => ?_
                 have h2 := HP.out.2.1.cdC i
                 rw [hz, hN] at h2
                 rw [h2]
                 exact (HP.out.2.2.C i).symm
                refine ⟨⟨k + 1, by norm_cast, by omega, Lib.hid hbt, Lib.hid (HM.out.2.trans HFb.out.2 (fun _ _ q => q.elim))⟩, ?_⟩
                simp only [intOf]
                omega
              · have hj1 : ¬ (j : Int) < (nm : Int) := by omega
                have HC := Lib.hid (pa_changed HP.out.1 HP.out.2.1)
                have e1 : openF y.f1 y.N = [] := openF_none (HP.out.2.2.f1.trans H6.out.2.2.2.1)
                have e2 : openF y.f2 y.N = [] := openF_none (HP.out.2.2.f2.trans H6.out.2.2.2.2.1)
                rw [e1] at HC
                have HT2 := HT.out
                rw [if_pos rfl] at HT2
                have HT3 := Lib.hid HT2
                have HE2 := Lib.hid e2
                clear HT2 HT e1 e2
                go_wp2_with fail
                refine HC.out.mono ?_
                rintro en wa ⟨va, rfl, hoa, fa⟩
                obtain ⟨Aa, ca, hva, _, _⟩ := own_slice hoa
                have hva' : va = .slice Aa 0 ca := hva
                subst hva'
                have hPa := HP.out.1.new fa
                have HDI := Lib.hid (pa_dirty hPa HP.out.2.1)
                rw [HE2.out] at HDI
                have HFa := Lib.hid (And.intro hPa fa)
                clear hva hoa hPa fa HC
                go_wp2_with fail
                refine HDI.out.mono ?_
                rintro en wb ⟨vb, rfl, hob, fb⟩
                obtain ⟨Ab, cb, hvb, _, _⟩ := own_slice hob
                have hvb' : vb = .slice Ab 0 cb := hvb
                subst hvb'
                have HFb := Lib.hid (And.intro (HFa.out.1.new fb) (HFa.out.2.trans fb (fun _ _ q => q)))
                clear hvb hob fb HDI
                go_wp2_with fail
                have hbt : BtQ wb w.heap.size g Z N (3 + 40 * (k + 1)) (.slice Au' N cu') := by
                 obtain ⟨_, _, _, _, P, _, _, hd, _⟩ := HFb.out.1.parts
                 have hr := HP.out.2.1.atRest
                 have hz : y.z = Z := HP.out.2.2.z.trans H6.out.2.1
                 have hN : y.N = N := HP.out.2.2.N.trans H6.out.2.2.1
                 rw [hz, hN] at hr
                 refine ⟨P, y.d, y.c, y.s, y.q, y.e, pagesOf x5, hd, { hr with cK := by have := hr.cK; omega }, HT3.out.1.new HFb.out.2, HT3.out.2.new HFb.out.2, ?_⟩
                 unfold pagesOf
                 rw [H6.out.2.2.1]
                 refine List.map_congr_left fun i hi => ?_
                 have h2 := HP.out.2.1.cdC i
                 rw [hz, hN] at h2
                 rw [h2]
                 exact (HP.out.2.2.C i).symm
                refine ⟨⟨k + 1, by norm_cast, by omega, Lib.hid hbt, Lib.hid (HM.out.2.trans HFb.out.2 (fun _ _ q => q.elim))⟩, ?_⟩
                simp only [intOf]
                omega
            | false =>
              have HT2 := HT.out
              rw [if_neg (by decide)] at HT2
              by_cases hjl : j < nm
              · obtain ⟨mj, hmj⟩ : ∃ mj, ms[j]? = some mj := ⟨_, List.getElem?_eq_getElem (by have := H3.out.2.2.2.1; omega)⟩
                have hlj : mj.length = N := H3.out.2.2.2.2 mj (List.mem_of_getElem? hmj)
                obtain ⟨_, _, hbe, _, hbm, hmm⟩ := HM.out.1
                injection hbe with hbe h88 h99
                clear h88 h99
                injection hbe with hbe
                injection hbe with hbe
                subst hbe
                obtain ⟨u, hu1, hu2, hu3⟩ := hmm j mj hmj
                obtain ⟨Aj, cj, hje, _⟩ := id hu2
                rw [hlj] at hje
                subst hje
                have HALL := Lib.hid (all_any6 HP.out.1 HP.out.2.1 hu2 (hu3.off HP.out.1.off (.inr (.inl rfl))) (by rw [hlj]; omega))
                have hnbm := HP.out.1.off _ _ _ hbm (.inr (.inr (.inr (.inr (.inl rfl)))))
                have hu1' : ∀ W, Fr S wr W → W.cell? ⟨bm, j, none⟩ = some (.slice Aj N cj) := fun W f => (f.cell (World.block_lt_of_cell? wr _ hu1) hnbm).trans hu1
                have HU := Lib.hid (And.intro hmj (And.intro hu2 (And.intro hu3 (And.intro hlj (And.intro hu1' HT2)))))
                have hj0 : (0 : Int) ≤ (j : Int) := by omega
                have hj1 : (j : Int) < (nm : Int) := by omega
                clear hmj hbm hmm hu2 hu3 hlj hnbm hu1' HT2 HT hjl
                go_wp2_with fail
                refine HALL.out.mono ?_
                rintro en w6 ⟨u6, rfl, y6, b6, rfl, hT6, hok6, hsm6, hb6⟩
                obtain ⟨S6, hA6, _, f6⟩ := hT6
                have hF6 : Fr (fun b => w.heap.size ≤ b) w w6 := HM.out.2.trans f6 (fun b _ q => (HP.out.1.sub b q).1)
                have hsm : SameP x5 y6 := SameP.next HP.out.2.2 hsm6
                have hmsp := HM.out.1.keep f6 HP.out.1.off
                have hpj := HU.out.2.1.keep f6 (HU.out.2.2.1.off HP.out.1.off (.inr (.inl rfl)))
                have hoj := HU.out.2.2.1.keep f6 (HU.out.2.2.1.off HP.out.1.off (.inr (.inl rfl)))
                have hbj : b6 = true ↔ mj = pagesOf x5 := by
                 rw [hb6]
                 have hyN : y.N = N := HP.out.2.2.N.trans H6.out.2.2.1
                 have hV : ∀ i, y.V i = x5.C i := fun i => by
                  rw [HP.out.2.2.V]
                  unfold PX.V
                  rw [H6.out.2.2.2.1]
                  simp
                 refine ⟨fun q => ?_, fun q => ⟨by rw [HU.out.2.2.2.1, hyN], fun i yv hi => ?_⟩⟩
                 · apply List.ext_getElem?
                   intro i
                   by_cases hi : i < N
                   · have h1 : mj[i]? = some mj[i] := List.getElem?_eq_getElem (by have := HU.out.2.2.2.1; omega)
                     rw [pagesOf_at (by have := H6.out.2.2.1; omega), h1, q.2 i _ h1, hV]
                   · rw [List.getElem?_eq_none (by have := HU.out.2.2.2.1; omega), List.getElem?_eq_none (by have := H6.out.2.2.1; rw [pagesOf_len]; omega)]
                 · have hiN : i < N := by have := (List.getElem?_eq_some_iff.1 hi).1; have := HU.out.2.2.2.1; omega
                   rw [q, pagesOf_at (by have := H6.out.2.2.1; omega)] at hi
                   injection hi with hi
                   rw [hV, hi]
                have hc6 := HU.out.2.2.2.2.1 w6 f6
                have H7 := Lib.hid (And.intro (And.intro hA6 (And.intro hok6 hsm)) (And.intro (And.intro hmsp hF6) (And.intro (And.intro hpj hoj) hbj)))
                clear hA6 hok6 hsm hsm6 hmsp hF6 hpj hoj hbj hb6 f6 hu1 HALL
                cases b6 with
                | true =>
                  go_wp2_with fail
                  refine ⟨⟨j + 1, true, y6, S6, Aj, cj, by norm_cast, rfl, rfl, by omega, Lib.hid H7.out.1, Lib.hid H7.out.2.1, Lib.hid ?_⟩, ?_⟩
                  · rw [if_pos rfl, ← H7.out.2.2.2.1 trivial]
                    exact H7.out.2.2.1
                  · simp only [intOf]
                    omega
                | false =>
                  clear hc6
                  go_wp2_with fail
                  refine ⟨⟨j + 1, false, y6, S6, Au', cu', by norm_cast, rfl, rfl, by omega, Lib.hid H7.out.1, Lib.hid H7.out.2.1, Lib.hid ?_⟩, ?_⟩
                  · rw [if_neg (by decide)]
                    intro i hi e
                    by_cases hij : i < j
                    · exact HU.out.2.2.2.2.2 i hij e
                    · obtain rfl : i = j := by omega
                      rw [HU.out.1] at e
                      injection e with e
                      have := H7.out.2.2.2.2 e
                      cases this
                  · simp only [intOf]
                    omega
              · exfalso
                obtain ⟨i, hi⟩ := List.getElem?_of_mem H6.out.2.2.2.2.2.1
                exact HT2 i (by have := (List.getElem?_eq_some_iff.1 hi).1; have := H3.out.2.2.2.1; omega) hi
         · have hf' : (0 : Int) ≤ fu := by omega
           go_wp2_with fail
           refine (HB1.out.1.fused fu hf' hfu1).mono ?_
           rintro en wf ⟨rfl, ⟨Pf, hdf⟩, ff⟩
           have HF2 := Lib.hid (HF.out.trans ff (fun b _ q => (HB1.out.1.1.2 b q).1))
           have hno := HB1.out.2.2.2.1.off HB1.out.1.off (.inr (.inl rfl))
           obtain ⟨hrf, hcf⟩ := HB1.out.2.1.fused fu
           have HLV : Hid (Calls Tryz.prog 12 #[.pointer (some ⟨g, 0, none⟩), .int .i64 (Z : Nat), .int .i64 (fr : Nat), .slice As ns cps, .slice Au N cu] wf fun en w' => ∃ v ms, en = .returned (.tuple #[v, .bool true]) ∧ LvQ wf w' w.heap.size g Z N (3 + 40 * k + 30) v ms) := Lib.hid (live_any6 hdf hrf (by simp only [maxC]; omega) hf2 hf1 (xs := x.ss) (fun w' f => by
            have q := (HLA.out.1.old (Nat.le_refl _) (HF2.out.trans f (fun _ _ q => q))).s
            rw [HLA.out.2.1] at q
            exact q) HOK.out.1 HOK.out.2.1 (HB1.out.2.2.1.keep ff hno) (HB1.out.2.2.2.1.keep ff hno) (by rw [hcf]; exact HB1.out.2.2.2.2) hN8 HF2.out.size)
           have c1f : wf.cell? ⟨b, off + k * 3 + 1, none⟩ = some (.slice As ns cps) := by
            have q := (HLA.out.1.old (Nat.le_refl _) HF2.out).c1
            rw [HLA.out.2.1] at q
            exact q
           clear HB1 hfu1 hdf ff hno hrf hcf c0 c1'
           go_wp2_with fail
           refine HLV.out.mono ?_
           rintro en w3 ⟨vm, ms, rfl, hms, ⟨P3, d3, hd3, haf, hmo⟩, f3, hml⟩
           have hF3 : Fr (fun b => w.heap.size ≤ b) w w3 := HF2.out.trans f3 (fun _ _ q => q)
           have hl3 := HLA.out.1.old (Nat.le_refl _) hF3
           have c2 := hl3.c2
           rw [HLA.out.2.2] at c2
           have HCR := Lib.hid (acrash_p1 hd3.1 (vp := .slice Ap np cp) (picks := x.ps) (by have q := hl3.p; rw [HLA.out.2.2] at q; exact q) (fun b hb hp0 q => by
            have h1 := HLA.out.1.pl b (by rw [HLA.out.2.2]; exact hb) hp0
            have h2 := (hd3.1.2 b q).1
            omega) hmo)
           obtain ⟨c5, s5, q5, e5, hr5, hm5⟩ := haf x.ps
           have hms' := hms
           obtain ⟨bm, cm, hvm, hm2, _, _⟩ := hms'
           obtain ⟨nm, hnm⟩ : ∃ nm, nm = ms.length := ⟨_, rfl⟩
           rw [← hnm] at hvm hm2
           subst hvm
           have H3 := Lib.hid (And.intro hd3 (And.intro hms (And.intro hF3 (And.intro hnm hml))))
           have H5 := Lib.hid (And.intro hr5 hm5)
           have hm9 : nm ≤ 2 := hm2
           clear hms hd3 haf hmo f3 hF3 hl3 hm2 hnm hml hr5 hm5 HLV c1f hf hf'
           go_wp2_with fail
           refine HCR.out.mono ?_
           rintro en w4 ⟨rfl, hd4, f4⟩
           obtain ⟨P4, hd4', _⟩ := DT.of (S := 0) (P0 := P3) hd4 (fun b q => .inl q)
           have hms4 := H3.out.2.1.keep f4 H3.out.1.off
           have hF4 : Fr (fun b => w.heap.size ≤ b) w w4 := H3.out.2.2.1.trans f4 (fun b _ q => (H3.out.1.1.2 b q).1)
           have HO := Lib.hid (pa_open (fr := fr) hd4' H5.out.1 (by simp only [maxC]; omega) hf2 hf1)
           have hok := (op_free (crash_free d3 x.ps) Z fr c5 s5 e5 N q5).1
           rw [hok, if_pos rfl] at HO
           have H4 := Lib.hid (And.intro hd4' (And.intro hms4 (And.intro hF4 hok)))
           clear hd4 hd4' f4 hms4 hF4 HCR c2 hok
           go_wp2_with fail
           refine HO.out.mono ?_
           rintro en w5 ⟨v5, rfl, f5, _, o2⟩
           obtain ⟨p, S5, rfl, hA5, _⟩ := o2 trivial
           obtain ⟨x5, hx5⟩ : ∃ x5, x5 = opP (d3.crash x.ps) Z fr c5 s5 e5 N q5 := ⟨_, rfl⟩
           obtain ⟨t1, t2, t3, t4, t5⟩ := opP_parts (d := d3.crash x.ps) (z := Z) (fr := fr) (c := c5) (s := s5) (e := e5) (N := N) (q := q5)
           have hop := H5.out.1.opened (fr := fr) (by simp only [maxC]; omega) hf2 hf1 H4.out.2.2.2
           rw [← hx5] at hA5 t1 t2 t3 t4 t5 hop
           have hpg5 : pagesOf x5 ∈ ms := by
            have : pagesOf x5 = (List.range N).map (CD (d3.crash x.ps) Z N q5) := by
             unfold pagesOf
             rw [t2]
             exact List.map_congr_left fun i hi => hop.2.1 i (List.mem_range.1 hi)
            rw [this]
            exact H5.out.2
           have hms5 := H4.out.2.1.keep f5 H4.out.1.off
           have hF5 : Fr (fun b => w.heap.size ≤ b) w w5 := H4.out.2.2.1.trans f5 (fun b _ q => (H4.out.1.1.2 b q).1)
           have hok5 : x5.Ok (3 + 40 * k + 32) := hop.1
           have H6 := Lib.hid (And.intro hok5 (And.intro t1 (And.intro t2 (And.intro t3 (And.intro t5 (And.intro hpg5 hms5))))))
           have HA6 := Lib.hid (And.intro hA5 hF5)
           obtain ⟨nm', hnm'⟩ : ∃ m, m = ms.length := ⟨_, rfl⟩
           clear o2 hA5 hx5 t1 t2 t3 t4 t5 hop hpg5 hms5 hF5 f5 hok5 HO nm' hnm'
           go_wp2_with fail
           go_loopw [13, 19, 20] (fun sv is kk wr => ∃ (j : Nat) (t : Bool) (y : PX) (S : Nat → Prop) (Au' : Option Addr) (cu' : Nat), kk = .int .i64 j ∧ is = .bool t ∧ sv = .slice Au' N cu' ∧ j ≤ nm ∧ Hid (PA wr w.heap.size S p g y ∧ y.Ok (3 + 40 * k + 32) ∧ SameP x5 y) ∧ Hid (MsP wr (.slice (some ⟨bm, 0, none⟩) nm nm) ms ∧ Fr (fun b => w.heap.size ≤ b) w wr) ∧ Hid (if t = true then PgsV wr (.slice Au' N cu') (pagesOf x5) ∧ OT 50 wr (.slice Au' N cu') else ∀ i, i < j → ms[i]? ≠ some (pagesOf x5))) (fun _ _ kk _ => nm - (intOf kk).toNat)
           case atStart =>
            exact ⟨0, false, x5, S5, Au, cu, rfl, rfl, rfl, Nat.zero_le _, Lib.hid ⟨HA6.out.1, H6.out.1, SameP.refl _⟩, Lib.hid ⟨H6.out.2.2.2.2.2.2, HA6.out.2⟩, Lib.hid (by simp)⟩
           case round =>
            clear HA6
            obtain ⟨j, t, y, S, Au', cu', rfl, rfl, rfl, hj, HP, HM, HT⟩ := hrel
            cases t with
            | true =>
              by_cases hjl : j < nm
              · have hj1 : (j : Int) < (nm : Int) := by omega
                have HC := Lib.hid (pa_changed HP.out.1 HP.out.2.1)
                have e1 : openF y.f1 y.N = [] := openF_none (HP.out.2.2.f1.trans H6.out.2.2.2.1)
                have e2 : openF y.f2 y.N = [] := openF_none (HP.out.2.2.f2.trans H6.out.2.2.2.2.1)
                rw [e1] at HC
                have HT2 := HT.out
                rw [if_pos rfl] at HT2
                have HT3 := Lib.hid HT2
                have HE2 := Lib.hid e2
                clear HT2 HT e1 e2
                go_wp2_with fail
                refine HC.out.mono ?_
                rintro en wa ⟨va, rfl, hoa, fa⟩
                obtain ⟨Aa, ca, hva, _, _⟩ := own_slice hoa
                have hva' : va = .slice Aa 0 ca := hva
                subst hva'
                have hPa := HP.out.1.new fa
                have HDI := Lib.hid (pa_dirty hPa HP.out.2.1)
                rw [HE2.out] at HDI
                have HFa := Lib.hid (And.intro hPa fa)
                clear hva hoa hPa fa HC
                go_wp2_with fail
                refine HDI.out.mono ?_
                rintro en wb ⟨vb, rfl, hob, fb⟩
                obtain ⟨Ab, cb, hvb, _, _⟩ := own_slice hob
                have hvb' : vb = .slice Ab 0 cb := hvb
                subst hvb'
                have HFb := Lib.hid (And.intro (HFa.out.1.new fb) (HFa.out.2.trans fb (fun _ _ q => q)))
                clear hvb hob fb HDI
                go_wp2_with fail
                have hbt : BtQ wb w.heap.size g Z N (3 + 40 * (k + 1)) (.slice Au' N cu') := by
                 obtain ⟨_, _, _, _, P, _, _, hd, _⟩ := HFb.out.1.parts
                 have hr := HP.out.2.1.atRest
                 have hz : y.z = Z := HP.out.2.2.z.trans H6.out.2.1
                 have hN : y.N = N := HP.out.2.2.N.trans H6.out.2.2.1
                 rw [hz, hN] at hr
                 refine ⟨P, y.d, y.c, y.s, y.q, y.e, pagesOf x5, hd, { hr with cK := by have := hr.cK; omega }, HT3.out.1.new HFb.out.2, HT3.out.2.new HFb.out.2, ?_⟩
                 unfold pagesOf
                 rw [H6.out.2.2.1]
                 refine List.map_congr_left fun i hi => ?_
                 have h2 := HP.out.2.1.cdC i
                 rw [hz, hN] at h2
                 rw [h2]
                 exact (HP.out.2.2.C i).symm
                refine ⟨⟨k + 1, by norm_cast, by omega, Lib.hid hbt, Lib.hid (HM.out.2.trans HFb.out.2 (fun _ _ q => q.elim))⟩, ?_⟩
                simp only [intOf]
                omega
              · have hj1 : ¬ (j : Int) < (nm : Int) := by omega
                have HC := Lib.hid (pa_changed HP.out.1 HP.out.2.1)
                have e1 : openF y.f1 y.N = [] := openF_none (HP.out.2.2.f1.trans H6.out.2.2.2.1)
                have e2 : openF y.f2 y.N = [] := openF_none (HP.out.2.2.f2.trans H6.out.2.2.2.2.1)
                rw [e1] at HC
                have HT2 := HT.out
                rw [if_pos rfl] at HT2
                have HT3 := Lib.hid HT2
                have HE2 := Lib.hid e2
                clear HT2 HT e1 e2
                go_wp2_with fail
                refine HC.out.mono ?_
                rintro en wa ⟨va, rfl, hoa, fa⟩
                obtain ⟨Aa, ca, hva, _, _⟩ := own_slice hoa
                have hva' : va = .slice Aa 0 ca := hva
                subst hva'
                have hPa := HP.out.1.new fa
                have HDI := Lib.hid (pa_dirty hPa HP.out.2.1)
                rw [HE2.out] at HDI
                have HFa := Lib.hid (And.intro hPa fa)
                clear hva hoa hPa fa HC
                go_wp2_with fail
                refine HDI.out.mono ?_
                rintro en wb ⟨vb, rfl, hob, fb⟩
                obtain ⟨Ab, cb, hvb, _, _⟩ := own_slice hob
                have hvb' : vb = .slice Ab 0 cb := hvb
                subst hvb'
                have HFb := Lib.hid (And.intro (HFa.out.1.new fb) (HFa.out.2.trans fb (fun _ _ q => q)))
                clear hvb hob fb HDI
                go_wp2_with fail
                have hbt : BtQ wb w.heap.size g Z N (3 + 40 * (k + 1)) (.slice Au' N cu') := by
                 obtain ⟨_, _, _, _, P, _, _, hd, _⟩ := HFb.out.1.parts
                 have hr := HP.out.2.1.atRest
                 have hz : y.z = Z := HP.out.2.2.z.trans H6.out.2.1
                 have hN : y.N = N := HP.out.2.2.N.trans H6.out.2.2.1
                 rw [hz, hN] at hr
                 refine ⟨P, y.d, y.c, y.s, y.q, y.e, pagesOf x5, hd, { hr with cK := by have := hr.cK; omega }, HT3.out.1.new HFb.out.2, HT3.out.2.new HFb.out.2, ?_⟩
                 unfold pagesOf
                 rw [H6.out.2.2.1]
                 refine List.map_congr_left fun i hi => ?_
                 have h2 := HP.out.2.1.cdC i
                 rw [hz, hN] at h2
                 rw [h2]
                 exact (HP.out.2.2.C i).symm
                refine ⟨⟨k + 1, by norm_cast, by omega, Lib.hid hbt, Lib.hid (HM.out.2.trans HFb.out.2 (fun _ _ q => q.elim))⟩, ?_⟩
                simp only [intOf]
                omega
            | false =>
              have HT2 := HT.out
              rw [if_neg (by decide)] at HT2
              by_cases hjl : j < nm
              · obtain ⟨mj, hmj⟩ : ∃ mj, ms[j]? = some mj := ⟨_, List.getElem?_eq_getElem (by have := H3.out.2.2.2.1; omega)⟩
                have hlj : mj.length = N := H3.out.2.2.2.2 mj (List.mem_of_getElem? hmj)
                obtain ⟨_, _, hbe, _, hbm, hmm⟩ := HM.out.1
                injection hbe with hbe h88 h99
                clear h88 h99
                injection hbe with hbe
                injection hbe with hbe
                subst hbe
                obtain ⟨u, hu1, hu2, hu3⟩ := hmm j mj hmj
                obtain ⟨Aj, cj, hje, _⟩ := id hu2
                rw [hlj] at hje
                subst hje
                have HALL := Lib.hid (all_any6 HP.out.1 HP.out.2.1 hu2 (hu3.off HP.out.1.off (.inr (.inl rfl))) (by rw [hlj]; omega))
                have hnbm := HP.out.1.off _ _ _ hbm (.inr (.inr (.inr (.inr (.inl rfl)))))
                have hu1' : ∀ W, Fr S wr W → W.cell? ⟨bm, j, none⟩ = some (.slice Aj N cj) := fun W f => (f.cell (World.block_lt_of_cell? wr _ hu1) hnbm).trans hu1
                have HU := Lib.hid (And.intro hmj (And.intro hu2 (And.intro hu3 (And.intro hlj (And.intro hu1' HT2)))))
                have hj0 : (0 : Int) ≤ (j : Int) := by omega
                have hj1 : (j : Int) < (nm : Int) := by omega
                clear hmj hbm hmm hu2 hu3 hlj hnbm hu1' HT2 HT hjl
                go_wp2_with fail
                refine HALL.out.mono ?_
                rintro en w6 ⟨u6, rfl, y6, b6, rfl, hT6, hok6, hsm6, hb6⟩
                obtain ⟨S6, hA6, _, f6⟩ := hT6
                have hF6 : Fr (fun b => w.heap.size ≤ b) w w6 := HM.out.2.trans f6 (fun b _ q => (HP.out.1.sub b q).1)
                have hsm : SameP x5 y6 := SameP.next HP.out.2.2 hsm6
                have hmsp := HM.out.1.keep f6 HP.out.1.off
                have hpj := HU.out.2.1.keep f6 (HU.out.2.2.1.off HP.out.1.off (.inr (.inl rfl)))
                have hoj := HU.out.2.2.1.keep f6 (HU.out.2.2.1.off HP.out.1.off (.inr (.inl rfl)))
                have hbj : b6 = true ↔ mj = pagesOf x5 := by
                 rw [hb6]
                 have hyN : y.N = N := HP.out.2.2.N.trans H6.out.2.2.1
                 have hV : ∀ i, y.V i = x5.C i := fun i => by
                  rw [HP.out.2.2.V]
                  unfold PX.V
                  rw [H6.out.2.2.2.1]
                  simp
                 refine ⟨fun q => ?_, fun q => ⟨by rw [HU.out.2.2.2.1, hyN], fun i yv hi => ?_⟩⟩
                 · apply List.ext_getElem?
                   intro i
                   by_cases hi : i < N
                   · have h1 : mj[i]? = some mj[i] := List.getElem?_eq_getElem (by have := HU.out.2.2.2.1; omega)
                     rw [pagesOf_at (by have := H6.out.2.2.1; omega), h1, q.2 i _ h1, hV]
                   · rw [List.getElem?_eq_none (by have := HU.out.2.2.2.1; omega), List.getElem?_eq_none (by have := H6.out.2.2.1; rw [pagesOf_len]; omega)]
                 · have hiN : i < N := by have := (List.getElem?_eq_some_iff.1 hi).1; have := HU.out.2.2.2.1; omega
                   rw [q, pagesOf_at (by have := H6.out.2.2.1; omega)] at hi
                   injection hi with hi
                   rw [hV, hi]
                have hc6 := HU.out.2.2.2.2.1 w6 f6
                have H7 := Lib.hid (And.intro (And.intro hA6 (And.intro hok6 hsm)) (And.intro (And.intro hmsp hF6) (And.intro (And.intro hpj hoj) hbj)))
                clear hA6 hok6 hsm hsm6 hmsp hF6 hpj hoj hbj hb6 f6 hu1 HALL
                cases b6 with
                | true =>
                  go_wp2_with fail
                  refine ⟨⟨j + 1, true, y6, S6, Aj, cj, by norm_cast, rfl, rfl, by omega, Lib.hid H7.out.1, Lib.hid H7.out.2.1, Lib.hid ?_⟩, ?_⟩
                  · rw [if_pos rfl, ← H7.out.2.2.2.1 trivial]
                    exact H7.out.2.2.1
                  · simp only [intOf]
                    omega
                | false =>
                  clear hc6
                  go_wp2_with fail
                  refine ⟨⟨j + 1, false, y6, S6, Au', cu', by norm_cast, rfl, rfl, by omega, Lib.hid H7.out.1, Lib.hid H7.out.2.1, Lib.hid ?_⟩, ?_⟩
                  · rw [if_neg (by decide)]
                    intro i hi e
                    by_cases hij : i < j
                    · exact HU.out.2.2.2.2.2 i hij e
                    · obtain rfl : i = j := by omega
                      rw [HU.out.1] at e
                      injection e with e
                      have := H7.out.2.2.2.2 e
                      cases this
                  · simp only [intOf]
                    omega
              · exfalso
                obtain ⟨i, hi⟩ := List.getElem?_of_mem H6.out.2.2.2.2.2.1
                exact HT2 i (by have := (List.getElem?_eq_some_iff.1 hi).1; have := H3.out.2.2.2.1; omega) hi
       · obtain rfl : n = k := by omega
         clear hlt
         go_wp2_with fail
         refine (known_any _).mono ?_
         rintro e wk ⟨rfl, fk⟩
         have HK := Lib.hid (show Fr (fun _ => False) w wk from (HF.out.trans fk (fun _ _ q => q.elim)).mono (fun b hb q => by omega))
         clear fk
         go_wp2_with fail
         go_ret
         exact ⟨rfl, HK.out⟩
end Go.Proofs.YtcnlgbjkjlbmbaaGreat

