/- couponref06: Put. -/
import Derived.Test.YtcnlgbjkjlbmbaaGreatQak
namespace Go.Proofs.YtcnlgbjkjlbmbaaGreat
open Go.RowKit

def stepC (n : Int) (x : List UInt8) (s : List Chg × Bool) (c : Chg) : List Chg × Bool :=
 let s1 := if s.2 = false ∧ c.n > n then (s.1 ++ [⟨n, x⟩], true) else s
 if c.n ≠ n then (s1.1 ++ [c], s1.2) else s1
theorem step_new {n : Int} {x : List UInt8} {l : List Chg} {c : Chg} (h1 : c.n > n) (h2 : c.n ≠ n) : stepC n x (l, false) c = (l ++ [⟨n, x⟩] ++ [c], true) := by
 simp [stepC, h1, h2]
def putCh (ch : List Chg) (n : Int) (x : List UInt8) (b : Bool) : List Chg :=
 let s := ch.foldl (stepC n x) ([], b)
 if s.2 then s.1 else s.1 ++ [⟨n, x⟩]
def GoodS (s : List Chg × Bool) (k : Nat) : Prop := s.1.length ≤ 2 * k ∧ ∀ c ∈ s.1, c.p.length = 512
theorem goodS_step {n : Int} {x : List UInt8} {s : List Chg × Bool} {c : Chg} {k : Nat} (h : GoodS s k) (hx : x.length = 512) (hc : c.p.length = 512) : GoodS (stepC n x s c) (k + 1) := by
 obtain ⟨h1, h2⟩ := h
 have ha : ∀ (l : List Chg) (d : Chg), (∀ c ∈ l, c.p.length = 512) → d.p.length = 512 → ∀ c ∈ l ++ [d], c.p.length = 512 := fun l d hl hd c hm => by
  rcases List.mem_append.1 hm with q | q
  · exact hl c q
  · rw [List.mem_singleton.1 q]; exact hd
 unfold stepC
 by_cases e1 : s.2 = false ∧ c.n > n
 · simp only [if_pos e1]
   split
   · exact ⟨by simp; omega, ha _ _ (ha _ _ h2 hx) hc⟩
   · exact ⟨by simp; omega, ha _ _ h2 hx⟩
 · simp only [if_neg e1]
   split
   · exact ⟨by simp; omega, ha _ _ h2 hc⟩
   · exact ⟨by omega, h2⟩
theorem chg_new {w : World} {l : List Chg} {v : Value} {base : Nat} (ho : w.ownsRow base 101 513 v l.length (recC l)) (c : Chg) : (w.alloc (.cells (chC c).toArray 101)).ownsRow base 101 513 v l.length (recC l) ∧ (w.alloc (.cells (chC c).toArray 101)).rangeAt w.heap.size 0 (chC c) ∧ Fr (fun _ => False) w (w.alloc (.cells (chC c).toArray 101)) := by
 have fa : Fr (fun _ => False) w (w.alloc (.cells (chC c).toArray 101)) := (Fr.refl _ w).alloc _
 exact ⟨own_keep ho fa (fun _ _ q => q), fun j u hj => by rw [(Blk.new w 101 (chC c).toArray).cell, Nat.zero_add]; simpa using hj, fa⟩
theorem put_end {w1 wr : World} {r M base : Nat} {pg : List (List UInt8)} {ch l : List Chg} {fr z room : Int} {vp vc vd vl t : Value} {di cl : List Int} (hC : RpC w1 r pg ch M fr z room vp vc vd vl di cl) (f : Fr (fun _ => False) w1 wr) (ho : wr.ownsRow base 101 513 t l.length (recC l)) (hb : r < base) (h5 : ∀ c ∈ l, c.p.length = 512) : RP (wr.setCell ⟨r, 1, none⟩ t) r pg l M fr z ∧ Fr (fun b => b = r) wr (wr.setCell ⟨r, 1, none⟩ t) := by
 obtain ⟨h1, h2, h3, h4, h5', h6, h7, s0, s1, s2, s3⟩ := hC
 obtain ⟨q1, f1⟩ := rp_set (h1.keep f (fun q => q)) 1 t
 have st : OT 101 wr t := OT.own ho
 have hB := h1.keep f (fun q => q)
 exact ⟨⟨room, vp, t, vd, vl, di, cl, q1, (h2.new f).keep f1 ((s0.new f).p hB), (rcV_of_own ho h5).keep f1 (st.c hB), (h4.keep f (fun _ _ q => q)).keep f1 ((s2.new f).i hB), h5', (h6.keep f (fun _ _ q => q)).keep f1 ((s3.new f).i hB), h7, (s0.new f).keep f1 ((s0.new f).p hB), st.keep f1 (st.c hB), (s2.new f).keep f1 ((s2.new f).i hB), (s3.new f).keep f1 ((s3.new f).i hB)⟩, f1⟩
section
variable {w w' : World} {r M : Nat} {pg : List (List UInt8)} {ch : List Chg} {fr z room : Int} {vp vc vd vl : Value} {di cl : List Int} {x y : List UInt8}
set_option maxRecDepth 100000 in
set_option maxHeartbeats 8000000 in
theorem rput6_any (h : RP w r pg ch M fr z) (hM : M ≤ 39000) (hfr : 0 ≤ fr) (hch : ch.length ≤ 10000) {n : Nat} (hn : pg[n]? = some y) (hxl : x.length = 512) (hyl : y.length = 512) : Calls Tryz.prog 36 #[.pointer (some ⟨r, 0, none⟩), .int .i64 (n : Nat), av x] w fun e w' => e = .returned (.tuple #[]) ∧ RP w' r pg (putCh ch n x (decide (x = y))) (M + 1) fr z ∧ Fr (fun b => b = r) w w' := by
 obtain ⟨e0, he0⟩ : ∃ e0, e0 = decide (x = y) := ⟨_, rfl⟩
 rw [← he0]
 have HE0 := Lib.hid he0
 clear he0
 have hrl : r < w.heap.size := by obtain ⟨_, _, _, _, _, _, _, q⟩ := h; exact q.1.lt
 obtain ⟨W0, hW0⟩ : ∃ W0, W0 = w.alloc (.cells (cellsB x).toArray 50) := ⟨_, rfl⟩
 have f0 : Fr (fun _ => False) w W0 := by rw [hW0]; exact (Fr.refl _ w).alloc _
 have hb0 : Blk W0 w.heap.size 50 (cellsB x).toArray := by rw [hW0]; exact Blk.new w _ _
 have hR0 : RP W0 r pg ch M fr z := by
  obtain ⟨room, vp, vc, vd, vl, di, cl, h1, h2, h3, h4, h5, h6, h7⟩ := h
  exact ⟨room, vp, vc, vd, vl, di, cl, h1.keep f0 (fun q => q), h2.new f0, h3.new f0, h4.keep f0 (fun _ _ q => q), h5, h6.keep f0 (fun _ _ q => q), h7.1, h7.2.1.new f0, h7.2.2.1.new f0, h7.2.2.2.1.new f0, h7.2.2.2.2.new f0⟩
 have HAS := Lib.hid (rask_any hR0 (by omega) hfr hn)
 have HX := Lib.hid (And.intro hxl hyl)
 have H0 := Lib.hid (And.intro f0 (And.intro hb0 hrl))
 clear h hn hxl hyl f0 hb0 hR0 hrl
 go_enter Tryz.func36, Tryz.ntmps36
 subst hW0
 go_wp2_with fail
 refine HAS.out.mono ?_
 rintro e w1 ⟨rfl, hR1, f1⟩
 obtain ⟨W2, hW2, hb2, hr2, f2, th2⟩ := put_arr w1 50 Tryz.zeroCells50 512 zeroPgCells y HX.out.2
 have hb1 := (H0.out.2.1.keep f1 (fun e => by have := H0.out.2.2; omega)).keep f2 (fun q => q)
 have hr1 : W2.rangeAt w.heap.size 0 (cellsB x) := fun i u hi => by rw [hb1.cell, Nat.zero_add]; simpa using hi
 obtain ⟨room, vp, vc, vd, vl, di, cl, hC⟩ := hR1
 have hcv := hC.2.2.1.new f2
 obtain ⟨Ac, cc, hvc, hcm, hcM, hcat⟩ := hcv
 obtain ⟨m, hm⟩ : ∃ m, m = ch.length := ⟨_, rfl⟩
 rw [← hm] at hvc hch hcm hcat
 have F2 : Fr (fun b => b = r) w W2 := ((H0.out.1.mono (fun _ _ q => q.elim)).trans f1 (fun _ _ q => q)).trans f2 (fun _ _ q => q.elim)
 have h1 : RpB W2 r vp vc vd vl fr z room := hC.1.keep f2 (fun q => q)
 obtain ⟨k0, k1, k2, k3, k4, k5, k6⟩ := rp_cells h1
 have hcmp : ∀ W, (binOp .eql 50 (av x) (av y)).run Tryz.prog W = .ok (.bool e0) W := fun W => by
  rw [pg_eql x y HX.out.1 HX.out.2, ← HE0.out]
 have HW := Lib.hid (And.intro hW2 (And.intro th2 (And.intro hr1 hr2)))
 have HF2 := Lib.hid (And.intro F2 (And.intro h1 (And.intro hC (And.intro f2 (And.intro hm (And.intro hcat hb1))))))
 clear hb1 hb2 hr1 hr2 f1 f2 th2 hW2 hC hcm hcM hcat hm F2 h1 HAS
 subst hvc
 go_wp2_with (first
  | (refine wpList_store_mid rfl 50 _ _ rfl w1.heap.size 0 (cellsB y).toArray rfl rfl HW.out.2.1 (by rw [infoPgS]; simp [cellsB_len, HX.out.2]) (all_oneCell_toArray (cellsB_one _)) ?_; rw [← HW.out.1])
  | (refine wpList_load_mid rfl 50 _ rfl w.heap.size 0 rfl (cellsB x) _ HW.out.2.2.1 Tryz.underlying50 rfl (by rw [infoPgS, cellsB_len, HX.out.1]) ?_)
  | (refine wpList_load_mid rfl 50 _ rfl w1.heap.size 0 rfl (cellsB y) _ HW.out.2.2.2 Tryz.underlying50 rfl (by rw [infoPgS, cellsB_len, HX.out.2]) ?_))
 clear hcmp
 obtain ⟨bx, hbx⟩ : ∃ bx, bx = w.heap.size := ⟨_, rfl⟩
 obtain ⟨by_, hby⟩ : ∃ bx, bx = w1.heap.size := ⟨_, rfl⟩
 rw [← hbx] at HF2
 rw [← hbx, ← hby]
 have HBX := Lib.hid hbx
 clear hbx hby
 go_loopw [7, 8, 9] (fun t bb q wr => ∃ (k : Nat) (l : List Chg) (b : Bool), bb = .bool b ∧ q = .int .i64 k ∧ k ≤ m ∧ Hid ((ch.take k).foldl (stepC n x) ([], e0) = (l, b) ∧ GoodS (l, b) k) ∧ Hid (wr.ownsRow W2.heap.size 101 513 t l.length (recC l)) ∧ Hid (Fr (fun _ => False) W2 wr)) (fun _ _ q _ => m - (intOf q).toNat)
 case atStart => exact ⟨0, [], e0, rfl, rfl, Nat.zero_le _, Lib.hid ⟨rfl, by simp [GoodS]⟩, Lib.hid (World.ownsRow_nil _ _ _ _), Lib.hid (Fr.refl _ _)⟩
 case round =>
  clear k0 k1 k2 k3 k4 k5 k6
  obtain ⟨k, l, bt, rfl, rfl, hk, HS, HO, HF⟩ := hrel
  obtain ⟨hatx⟩ : Nonempty (0 < m → ∃ b off, Ac = some ⟨b, off, none⟩ ∧ RecAt W2 b off ch) := ⟨HF2.out.2.2.2.2.2.1⟩
  have h1r : RpB wr r vp (.slice Ac m cc) vd vl fr z room := HF2.out.2.1.keep HF.out (fun q => q)
  have k1 := (rp_cells h1r).2.1
  clear h1r
  by_cases hlt : k < m
  · obtain ⟨b, off, hAc, hat⟩ := hatx (by omega)
    obtain ⟨c, hc⟩ : ∃ c, ch[k]? = some c := ⟨_, List.getElem?_eq_getElem (by have := HF2.out.2.2.2.2.1; omega)⟩
    obtain ⟨hcl, hcr⟩ := hat k c hc
    have hcr' : ∀ W, Fr (fun _ => False) W2 W → W.rangeAt b (off + k * 513) (chC c) := fun W f j u hj => (f.cell (World.block_lt_of_cell? W2 _ (hcr j u hj)) (fun q => q)).trans (hcr j u hj)
    have hcn : ∀ W, Fr (fun _ => False) W2 W → W.cell? ⟨b, off + k * 513, none⟩ = some (.int .i64 c.n) := fun W f => hcr' W f 0 _ rfl
    have hxr : ∀ W, Fr (fun _ => False) W2 W → W.rangeAt bx 0 (cellsB x) := fun W f i u hi => by rw [(HF2.out.2.2.2.2.2.2.keep f (fun q => q)).cell, Nat.zero_add]; simpa using hi
    have hts : (ch.take (k + 1)).foldl (stepC n x) ([], e0) = stepC n x (l, bt) c := by rw [List.take_add_one, hc, List.foldl_append, HS.out.1]; rfl
    have hgs : GoodS (stepC n x (l, bt) c) (k + 1) := goodS_step HS.out.2 HX.out.1 hcl
    subst hAc
    have hll : l.length ≤ 20000 := by have := HS.out.2.1; show l.length ≤ _; simp at this; omega
    have hbs : W2.heap.size ≤ wr.heap.size := HF.out.size
    have HC := Lib.hid (And.intro hcl (And.intro hcr' (And.intro hcn (And.intro hxr (And.intro hts (And.intro hgs (And.intro hll hbs)))))))
    have k5 := hcn wr HF.out
    have hk0 : (0 : Int) ≤ (k : Int) := by omega
    have hkm : (k : Int) < (m : Int) := by omega
    clear hatx hat hc hcl hcr hcr' hcn hxr hts hgs hll hbs hlt
    cases bt with
    | true =>
      by_cases hne : c.n = (n : Int)
      · have b1 : (c.n != (n : Int)) = false := by simp [hne]
        have HN := Lib.hid hne
        clear hne
        go_wp2_with fail
        refine ⟨⟨k + 1, l, true, rfl, by norm_cast, by omega, Lib.hid ?_, HO, HF⟩, ?_⟩
        · have e : stepC n x (l, true) c = (l, true) := by simp [stepC, HN.out]
          rw [HC.out.2.2.2.2.1, e]
          exact ⟨rfl, by have := HC.out.2.2.2.2.2.1; rwa [e] at this⟩
        · simp only [intOf]
          omega
      · have b1 : (c.n != (n : Int)) = true := by simp [hne]
        have HN := Lib.hid hne
        clear hne
        obtain ⟨ho, hra, fa⟩ := chg_new HO.out c
        have hrc := HC.out.2.1 wr HF.out
        have HA := Lib.hid (And.intro ho (And.intro hra (And.intro fa hrc)))
        clear ho hra fa hrc
        go_wp2_with (first
         | (refine wpList_load_mid rfl 101 _ rfl b (off + k * 513) rfl (chC c) _ HA.out.2.2.2 Tryz.underlying101 rfl (by rw [infoChange, chC_len HC.out.1]) ?_)
         | (refine wpList_one_chg rfl (.tmp 62) rfl (c := c) HC.out.1 rfl ?_)
         | (at_builtin; refine wpList_push_chg rfl (.tmp 55) (.tmp 63) rfl rfl HA.out.1 rfl HA.out.2.1 HC.out.1 (by have := HC.out.2.2.2.2.2.2.1; omega) (Nat.le_trans HC.out.2.2.2.2.2.2.2 HA.out.2.2.1.size) ?_; intro v9 w9 ho9 hg9; have f9 := (HF.out.trans HA.out.2.2.1 (fun _ _ q => q)).grown hg9 (fun k hk => .inr (own_low HA.out.1 hk)); have H9 := Lib.hid (And.intro ho9 f9); clear ho9 hg9 f9))
        refine ⟨⟨k + 1, l ++ [c], true, rfl, by norm_cast, by omega, Lib.hid ?_, Lib.hid H9.out.1, Lib.hid H9.out.2⟩, ?_⟩
        · have e : stepC n x (l, true) c = (l ++ [c], true) := by simp [stepC, HN.out]
          rw [HC.out.2.2.2.2.1, e]
          exact ⟨rfl, by have := HC.out.2.2.2.2.2.1; rwa [e] at this⟩
        · simp only [intOf]
          omega
    | false =>
      by_cases hgt : c.n > (n : Int)
      · have b1 : (c.n != (n : Int)) = true := by simp; omega
        have HN := Lib.hid (show c.n > (n : Int) ∧ c.n ≠ (n : Int) by omega)
        obtain ⟨ho, hra, fa⟩ := chg_new HO.out ⟨(n : Int), x⟩
        have hrx := HC.out.2.2.2.1 wr HF.out
        have HA := Lib.hid (And.intro ho (And.intro hra (And.intro fa hrx)))
        clear ho hra fa hrx
        go_upto_region 8 with fail
        go_upto_region 9 with (first
         | (refine wpList_load_mid rfl 50 _ rfl bx 0 rfl (cellsB x) _ HA.out.2.2.2 Tryz.underlying50 rfl (by rw [infoPgS, cellsB_len, HX.out.1]) ?_)
         | (refine wpList_build_chg rfl (.tmp 40) (.tmp 41) rfl (c := ⟨(n : Int), x⟩) HX.out.1 rfl rfl ?_)
         | (refine wpList_one_chg rfl (.tmp 42) rfl (c := ⟨(n : Int), x⟩) HX.out.1 rfl ?_)
         | (at_builtin; refine wpList_push_chg rfl (.tmp 39) (.tmp 43) rfl rfl HA.out.1 rfl HA.out.2.1 HX.out.1 (by have := HC.out.2.2.2.2.2.2.1; omega) (Nat.le_trans HC.out.2.2.2.2.2.2.2 HA.out.2.2.1.size) ?_; intro v8 w8 ho8 hg8; have f8 := (HF.out.trans HA.out.2.2.1 (fun _ _ q => q)).grown hg8 (fun k hk => .inr (own_low HA.out.1 hk)); obtain ⟨ho, hra, fa⟩ := chg_new ho8 c; have k1' := (rp_cells (HF2.out.2.1.keep f8 (fun q => q))).2.1; have k5' := HC.out.2.2.1 w8 f8; have HB := Lib.hid (And.intro ho (And.intro hra (And.intro fa (And.intro (HC.out.2.1 w8 f8) f8)))); clear ho8 hg8 f8 ho hra fa))
        go_wp2_with (first
         | (refine wpList_load_mid rfl 101 _ rfl b (off + k * 513) rfl (chC c) _ HB.out.2.2.2.1 Tryz.underlying101 rfl (by rw [infoChange, chC_len HC.out.1]) ?_)
         | (refine wpList_one_chg rfl (.tmp 62) rfl (c := c) HC.out.1 rfl ?_)
         | (at_builtin; refine wpList_push_chg rfl (.tmp 55) (.tmp 63) rfl rfl HB.out.1 rfl HB.out.2.1 HC.out.1 (by have := HC.out.2.2.2.2.2.2.1; simp; omega) (Nat.le_trans HB.out.2.2.2.2.size HB.out.2.2.1.size) ?_; intro v9 w9 ho9 hg9; have f9 := (HB.out.2.2.2.2.trans HB.out.2.2.1 (fun _ _ q => q)).grown hg9 (fun k hk => .inr (own_low HB.out.1 hk)); have H9 := Lib.hid (And.intro ho9 f9); clear ho9 hg9 f9))
        have hO9 := H9.out.1
        have hF9 := H9.out.2
        obtain ⟨l9, hl9⟩ : ∃ l9, l9 = l ++ [⟨(n : Int), x⟩] ++ [c] := ⟨_, rfl⟩
        rw [← hl9] at hO9
        clear H9
        refine ⟨⟨k + 1, l9, true, rfl, by norm_cast, by omega, Lib.hid ?_, Lib.hid hO9, Lib.hid hF9⟩, ?_⟩
        · have e : stepC n x (l, false) c = (l ++ [⟨(n : Int), x⟩] ++ [c], true) := step_new HN.out.1 HN.out.2
          rw [HC.out.2.2.2.2.1, e, hl9]
          exact ⟨rfl, by have := HC.out.2.2.2.2.2.1; rwa [e] at this⟩
        · simp only [intOf]
          omega
      · by_cases hne : c.n = (n : Int)
        · have b1 : (c.n != (n : Int)) = false := by simp [hne]
          have HN := Lib.hid (And.intro hne hgt)
          clear hne
          go_wp2_with fail
          refine ⟨⟨k + 1, l, false, rfl, by norm_cast, by omega, Lib.hid ?_, HO, HF⟩, ?_⟩
          · have e : stepC n x (l, false) c = (l, false) := by simp [stepC, HN.out.1]
            rw [HC.out.2.2.2.2.1, e]
            exact ⟨rfl, by have := HC.out.2.2.2.2.2.1; rwa [e] at this⟩
          · simp only [intOf]
            omega
        · have b1 : (c.n != (n : Int)) = true := by simp [hne]
          have HG := Lib.hid hgt
          have HN := Lib.hid hne
          clear hne
          obtain ⟨ho, hra, fa⟩ := chg_new HO.out c
          have hrc := HC.out.2.1 wr HF.out
          have HA := Lib.hid (And.intro ho (And.intro hra (And.intro fa hrc)))
          clear ho hra fa hrc
          go_wp2_with (first
           | (refine wpList_load_mid rfl 101 _ rfl b (off + k * 513) rfl (chC c) _ HA.out.2.2.2 Tryz.underlying101 rfl (by rw [infoChange, chC_len HC.out.1]) ?_)
           | (refine wpList_one_chg rfl (.tmp 62) rfl (c := c) HC.out.1 rfl ?_)
           | (at_builtin; refine wpList_push_chg rfl (.tmp 55) (.tmp 63) rfl rfl HA.out.1 rfl HA.out.2.1 HC.out.1 (by have := HC.out.2.2.2.2.2.2.1; omega) (Nat.le_trans HC.out.2.2.2.2.2.2.2 HA.out.2.2.1.size) ?_; intro v9 w9 ho9 hg9; have f9 := (HF.out.trans HA.out.2.2.1 (fun _ _ q => q)).grown hg9 (fun k hk => .inr (own_low HA.out.1 hk)); have H9 := Lib.hid (And.intro ho9 f9); clear ho9 hg9 f9))
          refine ⟨⟨k + 1, l ++ [c], false, rfl, by norm_cast, by omega, Lib.hid ?_, Lib.hid H9.out.1, Lib.hid H9.out.2⟩, ?_⟩
          · have e : stepC n x (l, false) c = (l ++ [c], false) := by simp [stepC, HN.out, HG.out]
            rw [HC.out.2.2.2.2.1, e]
            exact ⟨rfl, by have := HC.out.2.2.2.2.2.1; rwa [e] at this⟩
          · simp only [intOf]
            omega
  · have hkm : ¬ (k : Int) < (m : Int) := by omega
    have hall : ch.take k = ch := List.take_of_length_le (by have := HF2.out.2.2.2.2.1; omega)
    have hS := HS.out
    rw [hall] at hS
    have HG := Lib.hid hS
    have z1 := (HF2.out.2.1.keep HF.out (fun q => q)).frozen 1
    have hll : l.length ≤ 20000 := by have := HS.out.2.1; show l.length ≤ _; simp at this; omega
    have hrb : r < W2.heap.size := HF2.out.2.1.lt
    clear hatx hall hlt hS
    cases bt with
    | true =>
      obtain ⟨A9, c9, ht, _, _⟩ := own_slice HO.out
      obtain ⟨L9, hL9⟩ : ∃ L9, L9 = l.length := ⟨_, rfl⟩
      have HP := Lib.hid (put_end HF2.out.2.2.1 (HF2.out.2.2.2.1.trans HF.out (fun _ _ q => q)) HO.out hrb HG.out.2.2)
      rw [← hL9] at ht
      subst ht
      clear hL9
      go_wp2_with fail
      refine bodyPost_end (results_none rfl _ _ _) rfl ?_
      have e : putCh ch n x e0 = l := by unfold putCh; rw [HG.out.1]; rfl
      rw [e]
      exact ⟨rfl, HP.out.1, (HF2.out.1.trans HF.out (fun _ _ q => q.elim)).trans HP.out.2 (fun _ _ q => q)⟩
    | false =>
      obtain ⟨ho, hra, fa⟩ := chg_new HO.out ⟨(n : Int), x⟩
      have hxr : wr.rangeAt bx 0 (cellsB x) := fun i u hi => by rw [(HF2.out.2.2.2.2.2.2.keep HF.out (fun q => q)).cell, Nat.zero_add]; simpa using hi
      have HA := Lib.hid (And.intro ho (And.intro hra (And.intro fa hxr)))
      clear ho hra fa hxr
      go_upto_region 14 with (first
       | (refine wpList_load_mid rfl 50 _ rfl bx 0 rfl (cellsB x) _ HA.out.2.2.2 Tryz.underlying50 rfl (by rw [infoPgS, cellsB_len, HX.out.1]) ?_)
       | (refine wpList_build_chg rfl (.tmp 68) (.tmp 69) rfl (c := ⟨(n : Int), x⟩) HX.out.1 rfl rfl ?_)
       | (refine wpList_one_chg rfl (.tmp 70) rfl (c := ⟨(n : Int), x⟩) HX.out.1 rfl ?_)
       | (at_builtin; refine wpList_push_chg rfl (.tmp 67) (.tmp 71) rfl rfl HA.out.1 rfl HA.out.2.1 HX.out.1 (by omega) (Nat.le_trans HF.out.size HA.out.2.2.1.size) ?_; intro v8 w8 ho8 hg8; have f8 := (HF.out.trans HA.out.2.2.1 (fun _ _ q => q)).grown hg8 (fun k hk => .inr (own_low HA.out.1 hk)); have H8 := Lib.hid (And.intro ho8 f8); clear ho8 hg8 f8))
      obtain ⟨l9, hl9⟩ : ∃ l9, l9 = l ++ [⟨(n : Int), x⟩] := ⟨_, rfl⟩
      have hO8 := H8.out.1
      rw [← hl9] at hO8
      obtain ⟨A9, c9, ht, _, _⟩ := own_slice hO8
      obtain ⟨L9, hL9⟩ : ∃ L9, L9 = l9.length := ⟨_, rfl⟩
      have HP := Lib.hid (put_end HF2.out.2.2.1 (HF2.out.2.2.2.1.trans H8.out.2 (fun _ _ q => q)) hO8 hrb (by
       rw [hl9]
       intro c hc
       rcases List.mem_append.1 hc with q | q
       · exact HG.out.2.2 c q
       · rw [List.mem_singleton.1 q]; exact HX.out.1))
      have z1' := (HF2.out.2.1.keep H8.out.2 (fun q => q)).frozen 1
      have k1' := (rp_cells (HF2.out.2.1.keep H8.out.2 (fun q => q))).2.1
      have HL := Lib.hid (And.intro hl9 H8.out.2)
      rw [← hL9] at ht
      subst ht
      clear hL9 hl9 hO8 H8 z1
      go_wp2_with fail
      refine bodyPost_end (results_none rfl _ _ _) rfl ?_
      have e : putCh ch n x e0 = l9 := by unfold putCh; rw [HG.out.1, HL.out.1]; rfl
      rw [e]
      exact ⟨rfl, HP.out.1, (HF2.out.1.trans HL.out.2 (fun _ _ q => q.elim)).trans HP.out.2 (fun _ _ q => q)⟩
end
end Go.Proofs.YtcnlgbjkjlbmbaaGreat

