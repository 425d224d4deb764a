/- R9: laid together out of Qpg Qbg Qsm Qkp Qkw Qnh. -/
import Derived.Test.YtcnlgbjkjlbmbaaGreatR8
namespace Go.Proofs.YtcnlgbjkjlbmbaaGreat
open Go.RowKit

def pageOf (b : List UInt8) : List UInt8 := if b = [] then nought 512 else (List.range 512).map fun i => b.getD (i % b.length) 0
set_option maxRecDepth 100000 in
theorem pageOf_len (b : List UInt8) : (pageOf b).length = 512 := by
 unfold pageOf
 split
 · exact nought_len _
 · rw [List.length_map, List.length_range]
set_option maxRecDepth 100000 in
set_option maxHeartbeats 1000000 in
theorem page_any {w : World} {A : Option Addr} {n c : Nat} {b : List UInt8} (hr : Rd w A n b) (hn : n ≤ 9223372036854775807) : Calls Tryz.prog 20 #[.slice A n c] w fun e w' => e = .returned (av (pageOf b)) ∧ Fr (fun _ => False) w w' := by
 obtain ⟨z, hz⟩ : ∃ z, z = pageOf b := ⟨_, rfl⟩
 rw [← hz]
 have hzl : z.length = 512 := hz ▸ pageOf_len b
 have hzk : ∀ k c, 0 < n → k < 512 → b[k % n]? = some c → z[k]? = some c := fun k c h0 hk hc => by
  have hl := hr.len
  have hne : ¬ b = [] := by intro e; rw [e] at hl; simp at hl; omega
  rw [hz]
  unfold pageOf
  rw [if_neg hne, hl]
  simp [hk, hc]
 have hz0 : n = 0 → z = nought 512 := fun h0 => by
  have hl := hr.len
  have hb : b = [] := List.eq_nil_of_length_eq_zero (by omega)
  rw [hz, hb]
  rfl
 have HZ := Lib.hid (And.intro hzl (And.intro hzk (And.intro hz0 hr)))
 clear hz hzl hzk hz0 hr
 have hb0 := Blk.new w 50 (cellsB (nought 512)).toArray
 have hf0 : Fr (fun _ => False) w (w.alloc (.cells (cellsB (nought 512)).toArray 50)) := (Fr.refl _ _).alloc _
 have HB := Lib.hid (And.intro hb0 hf0)
 clear hb0 hf0
 go_enter Tryz.func20, Tryz.ntmps20
 go_wp2_with (refine wpList_zero rfl 50 rfl zeroPage ?_)
 generalize w.alloc (.cells (cellsB (nought 512)).toArray 50) = w1 at *
 go_loopw [3] (fun i wr => ∃ k : Nat, i = .int .i64 k ∧ k ≤ 512 ∧ (n = 0 → k = 0) ∧ Hid (Blk wr w.heap.size 50 (cellsB (patch (nought 512) 0 (z.take k))).toArray ∧ Fr (fun _ => False) w wr)) (fun i _ => 512 - (intOf i).toNat)
 case atStart => exact ⟨0, rfl, Nat.zero_le _, fun _ => rfl, Lib.hid (by simpa [patch] using HB.out)⟩
 case round =>
  obtain ⟨k, rfl, hk, hk0, HR⟩ := hrel
  clear HB
  have hfin : ∀ W, Blk W w.heap.size 50 (cellsB z).toArray → W.rangeAt w.heap.size 0 (cellsB z) := fun W h => by
   have := h.range 0 512
   rwa [List.drop_zero, List.take_of_length_le (Nat.le_of_eq HZ.out.1)] at this
  by_cases h0 : n = 0
  · have hk9 := hk0 h0
    subst hk9
    have hzz := HZ.out.2.2.1 h0
    have hbz : Blk wr w.heap.size 50 (cellsB z).toArray := by
     have q := HR.out.1
     rw [List.take_zero] at q
     rw [hzz]
     simpa [patch] using q
    have hrg := hfin wr hbz
    have HBZ := Lib.hid hbz
    subst h0
    clear hbz hzz
    go_wp2_with (first
     | (refine wpList_load_mid rfl 50 _ rfl w.heap.size 0 rfl (cellsB z) _ hrg Tryz.underlying50 rfl (by rw [infoPage, cellsB_len, HZ.out.1]) ?_)
     | (refine wpList_store_mid rfl 50 _ _ rfl w.heap.size 0 (cellsB z).toArray rfl rfl (HBZ.out.there (by simp)) (by rw [infoPage]; simp [cellsB_len, HZ.out.1]) (all_oneCell_toArray (cellsB_one _)) ?_))
    refine bodyPost_ret (results_cell_row rfl _ _ w.heap.size 50 (cellsB z).toArray (0, 0) _ rfl ?_ Tryz.underlying50 rfl (by rw [infoPage]; simp [cellsB_len, HZ.out.1])) rfl ?_
    · have := HBZ.out.over (o := 0) (m := z) (by omega)
      rw [patch_all rfl] at this
      exact this
    · exact ⟨rfl, Fr.setCells (.inr (Nat.le_refl _)) HR.out.2⟩
  · by_cases hlt : k < 512
    · obtain ⟨j, hj⟩ : ∃ j, j = k % n := ⟨_, rfl⟩
      have hjn : j < n := by rw [hj]; exact Nat.mod_lt _ (by omega)
      have hrm : ((k : Int) % (n : Int)) = (j : Int) := by rw [hj]; rfl
      obtain ⟨ad, q, rfl, hq, hcell⟩ := (HZ.out.2.2.2.keep HR.out.2 (fun _ _ q => q)).at_ hjn
      have hzq := HZ.out.2.1 k q (by omega) hlt (by rw [← hj]; exact hq)
      have hml : (z.take k).length = k := by rw [List.length_take, HZ.out.1]; omega
      have hpl : (patch (nought 512) 0 (z.take k)).length = 512 := by rw [patch_len (by rw [nought_len, hml]; omega), nought_len]
      have hts : z.take (k + 1) = z.take k ++ [q] := by rw [List.take_add_one, hzq]; rfl
      have hcb : ∃ v, wr.cell? ⟨w.heap.size, k, none⟩ = some v := by
       rw [HR.out.1.cell]
       exact ⟨_, Array.getElem?_eq_getElem (by simp [cellsB_len, hpl]; omega)⟩
      obtain ⟨vb, hvb⟩ := hcb
      have hfb := HR.out.1.frozen k
      have hi0 : (0 : Int) ≤ (k : Int) := by omega
      have hi1 : (k : Int) < 512 := by omega
      have hj0 : (0 : Int) ≤ (j : Int) := by omega
      have hj1 : (j : Int) < (n : Int) := by omega
      have hn0 : ((n : Int) == 0) = false := by rw [beq_eq_false_iff_ne]; omega
      have hn1 : (0 : Int) < (n : Int) := by omega
      have HS := Lib.hid (And.intro hml hts)
      clear hpl hts hml hzq hq hj
      go_wp2_with fail
      have h1 := HR.out.1.one (q := q) (by rw [nought_len, HS.out.1]; omega)
      rw [HS.out.1, Nat.zero_add, ← HS.out.2] at h1
      exact ⟨⟨k + 1, by go_num, hlt, fun q => absurd q h0, Lib.hid ⟨h1, HR.out.2.setCell (p := ⟨w.heap.size, k, none⟩) (.inr (Nat.le_refl _)) _⟩⟩, by simp [intOf]; omega⟩
    · have hk9 : k = 512 := by omega
      have hbz : Blk wr w.heap.size 50 (cellsB z).toArray := by
       have q := HR.out.1
       rw [hk9, List.take_of_length_le (by rw [HZ.out.1]; omega), patch_all (by rw [nought_len, HZ.out.1])] at q
       exact q
      have hrg := hfin wr hbz
      have HBZ := Lib.hid hbz
      have hni : ¬ ((k : Int) < 512) := by omega
      clear hbz hk9
      go_wp2_with (first
       | (refine wpList_load_mid rfl 50 _ rfl w.heap.size 0 rfl (cellsB z) _ hrg Tryz.underlying50 rfl (by rw [infoPage, cellsB_len, HZ.out.1]) ?_)
       | (refine wpList_store_mid rfl 50 _ _ rfl w.heap.size 0 (cellsB z).toArray rfl rfl (HBZ.out.there (by simp)) (by rw [infoPage]; simp [cellsB_len, HZ.out.1]) (all_oneCell_toArray (cellsB_one _)) ?_))
      refine bodyPost_ret (results_cell_row rfl _ _ w.heap.size 50 (cellsB z).toArray (0, 0) _ rfl ?_ Tryz.underlying50 rfl (by rw [infoPage]; simp [cellsB_len, HZ.out.1])) rfl ?_
      · have := HBZ.out.over (o := 0) (m := z) (by omega)
        rw [patch_all rfl] at this
        exact this
      · exact ⟨rfl, Fr.setCells (.inr (Nat.le_refl _)) HR.out.2⟩
end Go.Proofs.YtcnlgbjkjlbmbaaGreat

namespace Go.Proofs.YtcnlgbjkjlbmbaaGreat
open Go.RowKit

structure Fresh (x : PX) (pages z fr : Nat) : Prop where
 ok : x.Ok 3
 free : x.d.free
 N : x.N = pages
 z : x.z = z
 fr : x.fr = fr
 e : x.e = 0
 f1 : x.f1 = fun _ => []
 f2 : x.f2 = fun _ => []
 cl : x.cl = []
 pg : ∀ n, n < pages → x.C n = nought 512
set_option maxRecDepth 100000 in
theorem fresh_opened {d : DS} {z N C fr : Nat} (h : FD d z N) (h4 : 4 ≤ z) (hz : z ≤ 4000) (hN : N = 1 + z + 4 * C) (hC : 4 ≤ C) (hM : C ≤ 2000) (h2 : 2 ≤ fr) (hfM : fr ≤ 100) : Fresh (opP d z fr 1 1 0 C []) C z fr := by
 obtain ⟨hdr, hpg⟩ := h.dr h4 hz hN hC hM
 have hop := op_free h.fr z fr 1 1 0 C []
 obtain ⟨h5, h6, h7⟩ := hdr.opened (fr := fr) (by decide) h2 hfM hop.1
 exact ⟨h5, hop.2, rfl, rfl, rfl, rfl, rfl, rfl, rfl, fun n hn => (h6 n hn).trans (hpg n hn)⟩
set_option maxRecDepth 100000 in
set_option maxHeartbeats 4000000 in
theorem begun_any (w : World) {pages z fr : Nat} (hp4 : 4 ≤ pages) (hp : pages ≤ 80) (hz4 : 4 ≤ z) (hz : z ≤ 400) (h2 : 2 ≤ fr) (hfr : fr ≤ 100) : Calls Tryz.prog 10 #[.int .i64 (pages : Nat), .int .i64 (z : Nat), .int .i64 (fr : Nat)] w fun e w' => ∃ g p S x, e = .returned (.tuple #[.pointer (some ⟨g, 0, none⟩), .pointer (some ⟨p, 0, none⟩), .bool true]) ∧ PA w' w.heap.size S p g x ∧ Fresh x pages z fr ∧ Fr (fun _ => False) w w' := by
 obtain ⟨nn, hnn⟩ : ∃ nn, nn = 1 + z + 4 * pages := ⟨_, rfl⟩
 have hw1 : IntKind.i64.wrap (1 + (z : Int)) = 1 + (z : Int) := by simp [IntKind.wrap, IntKind.signed, IntKind.bits]; omega
 have hw2 : IntKind.i64.wrap (4 * (pages : Int)) = 4 * (pages : Int) := by simp [IntKind.wrap, IntKind.signed, IntKind.bits]; omega
 have hw3 : IntKind.i64.wrap (1 + (z : Int) + 4 * (pages : Int)) = (nn : Int) := by rw [hnn]; simp [IntKind.wrap, IntKind.signed, IntKind.bits]; omega
 have HN := Lib.hid (anew_any w (n := nn) (by omega) (by omega))
 have hpc : pcnt nn (z : Nat) = pages := by
  unfold pcnt
  rw [if_neg (by omega), Int.toNat_natCast]
  omega
 have H0 := Lib.hid (And.intro hnn hpc)
 clear hnn hpc
 go_enter Tryz.func10, Tryz.ntmps10
 go_wp2_with fail
 refine HN.out.mono ?_
 rintro e w1 ⟨g, P1, rfl, hd1, f1⟩
 have HF := Lib.hid (plformat_new hd1 (ND.new nn) hz4 (by omega) (by rw [H0.out.2]; exact hp4) (by rw [H0.out.2]; omega))
 have H1 := Lib.hid (And.intro hd1 f1)
 clear hd1 f1 HN hw1 hw2 hw3
 go_wp2_with fail
 refine HF.out.mono ?_
 rintro e w2 ⟨rfl, ⟨P2, d2, hd2, hfd, hp2⟩, f2⟩
 obtain ⟨P3, hd3, hp3⟩ := DT.of hd2 hp2
 have hdr := (hfd.dr (C := pages) hz4 (by omega) H0.out.1 hp4 (by omega)).1
 have HO := Lib.hid (pa_open hd3 hdr (by decide) h2 hfr)
 rw [(op_free hfd.fr z fr 1 1 0 pages []).1] at HO
 have hB : ∀ b, P1 b → w.heap.size ≤ b := fun b q => (H1.out.1.2 b q).1
 have H2 := Lib.hid (And.intro f2 (And.intro hfd (And.intro hp3 hB)))
 clear hd2 hfd hp2 f2 hd3 hp3 hdr hB HF
 go_wp2_with fail
 refine HO.out.mono ?_
 rintro e w3 ⟨v, rfl, f3, -, o2⟩
 obtain ⟨p, S', rfl, hPA, hS'⟩ := o2 (by simp)
 have hfin : Fr (fun _ => False) w w3 := (H1.out.2.trans H2.out.1 (fun b hb q => by have := H2.out.2.2.2 b q; omega)).trans f3 (fun b hb q => by
  rcases H2.out.2.2.1 b q with y | y
  · have := H2.out.2.2.2 b y; omega
  · have := H1.out.2.size; omega)
 have H3 := Lib.hid (And.intro hPA hfin)
 clear hPA hS' f3 o2 hfin HO
 go_wp2_with fail
 refine bodyPost_ret (results_tmp3 rfl _ _ _) rfl ?_
 exact ⟨g, p, S', _, rfl, H3.out.1, fresh_opened H2.out.2.1 hz4 (by omega) H0.out.1 hp4 (by omega) h2 hfr, H3.out.2⟩
end Go.Proofs.YtcnlgbjkjlbmbaaGreat

namespace Go.Proofs.YtcnlgbjkjlbmbaaGreat
open Go.RowKit

set_option maxRecDepth 100000 in
set_option maxHeartbeats 4000000 in
theorem isame_any {w : World} {v u : Value} {zs ys : List Int} (hv : IntsAt w v zs) (hu : IntsAt w u ys) (hzl : zs.length ≤ 100000) (hyl : ys.length ≤ 100000) : Calls Tryz.prog 24 #[v, u] w fun e w' => e = .returned (.bool (decide (zs = ys))) ∧ Fr (fun _ => False) w w' := by
 obtain ⟨A, c1, rfl, hc1, hA⟩ := hv
 obtain ⟨B, c2, rfl, hc2, hB⟩ := hu
 obtain ⟨m, hm⟩ : ∃ m, m = zs.length := ⟨_, rfl⟩
 obtain ⟨n, hn⟩ : ∃ n, n = ys.length := ⟨_, rfl⟩
 obtain ⟨t, ht⟩ : ∃ t, t = decide (zs = ys) := ⟨_, rfl⟩
 rw [← ht]
 have H0 := Lib.hid (And.intro hA (And.intro hB (And.intro hm (And.intro hn ht))))
 rw [← hm, ← hn]
 have hm9 : m ≤ 100000 := by omega
 have hn9 : n ≤ 100000 := by omega
 clear hA hB hm hn ht hc1 hc2 hzl hyl
 by_cases hmn : m = n
 · subst hmn
   have hb0 : ((m : Int) != (m : Int)) = false := by simp
   go_enter Tryz.func24, Tryz.ntmps24
   go_wp2_with fail
   go_loopw [5] (fun x wr => ∃ k : Nat, x = .int .i64 k ∧ k ≤ m ∧ Hid (∀ i, i < k → zs[i]? = ys[i]?) ∧ Hid (Fr (fun _ => False) w wr)) (fun x _ => m - (intOf x).toNat)
   case atStart => exact ⟨0, rfl, Nat.zero_le _, Lib.hid (fun i hi => absurd hi (by omega)), Lib.hid (Fr.refl _ _)⟩
   case round =>
    obtain ⟨k, rfl, hk, HP, HF⟩ := hrel
    by_cases hlt : k < m
    · obtain ⟨hA, hB, hm, hn, ht⟩ := H0.out
      obtain ⟨z1, hz1⟩ : ∃ z1, zs[k]? = some z1 := ⟨_, List.getElem?_eq_getElem (by omega)⟩
      obtain ⟨z2, hz2⟩ : ∃ z2, ys[k]? = some z2 := ⟨_, List.getElem?_eq_getElem (by omega)⟩
      obtain ⟨b1, o1, rfl, hcA⟩ := hA (by omega)
      obtain ⟨b2, o2, rfl, hcB⟩ := hB (by omega)
      have hcc1 := hcA k z1 hz1
      have hcc2 := hcB k z2 hz2
      have hd1 : wr.cell? ⟨b1, o1 + k, none⟩ = some (.int .i64 z1) := (HF.out.cell (World.block_lt_of_cell? w _ hcc1) (fun q => q)).trans hcc1
      have hd2 : wr.cell? ⟨b2, o2 + k, none⟩ = some (.int .i64 z2) := (HF.out.cell (World.block_lt_of_cell? w _ hcc2) (fun q => q)).trans hcc2
      have hk0 : (0 : Int) ≤ (k : Int) := by omega
      have hkm : (k : Int) < (m : Int) := by omega
      have HX := Lib.hid (And.intro hz1 (And.intro hz2 ht))
      clear hA hB hm hn ht hz1 hz2 hcA hcB hcc1 hcc2 hlt
      by_cases he : z1 = z2
      · have hb1 : (z1 != z2) = false := by simp [he]
        have HE := Lib.hid he
        clear he
        go_wp2_with fail
        go_region
        go_wp2_with fail
        refine ⟨⟨k + 1, by norm_cast, by omega, Lib.hid (fun i hi => ?_), Lib.hid HF.out.drew⟩, ?_⟩
        · by_cases hik : i < k
          · exact HP.out i hik
          · have : i = k := by omega
            rw [this, HX.out.1, HX.out.2.1, HE.out]
        · simp only [intOf]
          omega
      · have hb1 : (z1 != z2) = true := by simp [he]
        have ht : t = false := by
         rw [HX.out.2.2, decide_eq_false_iff_not]
         intro q
         have h1 := HX.out.1
         rw [q, HX.out.2.1] at h1
         injection h1 with h1
         exact he h1.symm
        have HE := Lib.hid ht
        clear he ht
        go_wp2_with fail
        go_region
        go_wp2_with fail
        go_ret
        exact ⟨by rw [HE.out]; rfl, HF.out.drew⟩
    · obtain rfl : k = m := by omega
      have ht : t = true := by
       rw [H0.out.2.2.2.2, decide_eq_true_eq]
       apply List.ext_getElem?
       intro i
       by_cases hi : i < k
       · exact HP.out i hi
       · have h1 := H0.out.2.2.1
         have h2 := H0.out.2.2.2.1
         rw [List.getElem?_eq_none (by omega), List.getElem?_eq_none (by omega)]
      have HE := Lib.hid ht
      clear ht hlt
      go_wp2_with fail
      go_ret
      exact ⟨by rw [HE.out]; rfl, HF.out⟩
 · have hb0 : ((m : Int) != (n : Int)) = true := by simp; omega
   have ht : t = false := by
    rw [H0.out.2.2.2.2, decide_eq_false_iff_not]
    intro q
    exact hmn (by rw [H0.out.2.2.1, H0.out.2.2.2.1, q])
   have HE := Lib.hid ht
   clear ht hmn
   go_enter Tryz.func24, Tryz.ntmps24
   go_wp2_with fail
   go_ret
   exact ⟨by rw [HE.out]; rfl, Fr.refl _ _⟩
set_option maxRecDepth 100000 in
theorem ints_at {w : World} {base n : Nat} {v : Value} {l : List Nat} (h : w.ownsRow base 3 1 v n ((asZ l).map encZ)) (hn : n = l.length) : IntsAt w v (asZ l) := by
 have : (asZ l).length = n := by rw [hn]; simp
 rw [← this] at h
 exact IntsAt.own h
set_option maxRecDepth 100000 in
theorem ints_new {w w' : World} {v : Value} {zs : List Int} (h : IntsAt w v zs) (f : Fr (fun _ => False) w w') : IntsAt w' v zs := by
 obtain ⟨A, c, h1, h2, h3⟩ := h
 refine ⟨A, c, h1, h2, fun h0 => ?_⟩
 obtain ⟨b, o, h4, h5⟩ := h3 h0
 exact ⟨b, o, h4, fun i z hz => (f.cell (World.block_lt_of_cell? w _ (h5 i z hz)) (fun q => q)).trans (h5 i z hz)⟩
end Go.Proofs.YtcnlgbjkjlbmbaaGreat

namespace Go.Proofs.YtcnlgbjkjlbmbaaGreat
open Go.RowKit

set_option maxRecDepth 100000 in
theorem open_one {y : List UInt8} (hy : y ≠ []) (f : Nat → List UInt8) (h : ∀ n, f n = if n = 1 then y else []) : openF f 5 = [1] := by
 unfold openF
 have e : (List.range 5).filter (fun i => !(f i).isEmpty) = (List.range 5).filter (fun i => decide (i = 1)) := by
  congr 1
  funext i
  rw [h i]
  by_cases hi : i = 1
  · rw [if_pos hi]
    cases y with
    | nil => exact absurd rfl hy
    | cons _ _ => simp [hi]
  · rw [if_neg hi]
    simp [hi]
 rw [e]
 decide
def kx1 (x : PX) (y : List UInt8) : PX := x.putted 1 y
def kx2 (x : PX) (y : List UInt8) : PX := (kx1 x y).aborted
def kx3 (x : PX) (y : List UInt8) : PX := (kx2 x y).got 1
def kx4 (x : PX) (y : List UInt8) : PX := (kx3 x y).putted 1 y
def kx5 (x : PX) (y : List UInt8) : PX := (kx4 x y).com
def kx6 (x : PX) (y : List UInt8) : PX := (kx5 x y).got 1
set_option maxRecDepth 100000 in
theorem known_pure {x : PX} (h : Fresh x 5 12 2) {y : List UInt8} (hy : y.length = 512) (hy0 : y ≠ nought 512) :
 (kx1 x y).Ok 3 ∧ (kx2 x y).Ok 3 ∧ (kx3 x y).Ok 3 ∧ (kx4 x y).Ok 3 ∧ (kx5 x y).Ok 4 ∧ (kx6 x y).Ok 4 ∧ (kx1 x y).N = 5 ∧ (kx2 x y).N = 5 ∧ (kx3 x y).N = 5 ∧ (kx4 x y).N = 5 ∧ (kx5 x y).N = 5 ∧ (kx6 x y).N = 5 ∧ (kx2 x y).V 1 = nought 512 ∧ (kx4 x y).m = 1 ∧ (kx4 x y).need ≤ (kx4 x y).z ∧ (kx4 x y).comOk = true ∧ (kx5 x y).V 1 = y ∧ openF (kx6 x y).f2 5 = [1] ∧ (kx6 x y).z - (kx6 x y).e = 6 := by
 have hne : y ≠ [] := fun e => by rw [e] at hy; simp at hy
 have hN := h.N
 have k1 : (kx1 x y).Ok 3 := h.ok.putted (by rw [hN]; decide) hy
 have k2 : (kx2 x y).Ok 3 := k1.aborted
 have k3 : (kx3 x y).Ok 3 := k2.got (by show 1 < x.N; rw [hN]; decide)
 have e3 : kx3 x y = (kx2 x y).asked 1 := by
  show PX.got _ _ = _
  unfold PX.got
  rw [if_neg (fun q => q rfl)]
 have k4 : (kx4 x y).Ok 3 := k3.putted (by rw [e3]; show 1 < x.N; rw [hN]; decide) hy
 have hC : (kx3 x y).C 1 = nought 512 := by rw [e3]; exact h.pg 1 (by decide)
 have hf4 : ∀ n, (kx4 x y).f1 n = if n = 1 then y else [] := fun n => by
  show upd (kx3 x y).f1 1 (if y = (kx3 x y).C 1 then [] else y) n = _
  rw [hC, if_neg hy0]
  have : (kx3 x y).f1 = fun _ => [] := by rw [e3]; rfl
  rw [this]
  rfl
 have hN4 : (kx4 x y).N = 5 := by
  show (kx3 x y).N = 5
  rw [e3]
  exact hN
 have hm : (kx4 x y).m = 1 := by
  unfold PX.m
  rw [hN4, open_one hne _ hf4]
  rfl
 have hz4 : (kx4 x y).z = 12 := by
  show (kx3 x y).z = 12
  rw [e3]
  exact h.z
 have he4 : (kx4 x y).e = 0 := by
  show (kx3 x y).e = 0
  rw [e3]
  exact h.e
 have hneed : (kx4 x y).need = 6 := by
  unfold PX.need
  rw [hm]
  decide
 have hfree : (kx4 x y).d.free := by
  show (kx3 x y).d.free
  rw [e3]
  exact h.free
 have hok := (PX.com_free hfree).1
 have e5 : kx5 x y = (kx4 x y).comm := by
  show PX.com _ = _
  unfold PX.com
  rw [if_pos (by rw [hneed, hz4, he4]; decide)]
 have h5 := k4.com (by decide) (by rw [hm]; decide) (by rw [hm]; decide) (by rw [hneed, hz4]; decide) hok
 have hN5 : (kx5 x y).N = 5 := by rw [e5]; exact hN4
 have k5 : (kx5 x y).Ok 4 := h5.1
 have k6 : (kx6 x y).Ok 4 := k5.got (by rw [hN5]; decide)
 have e6 : kx6 x y = (kx5 x y).asked 1 := by
  show PX.got _ _ = _
  unfold PX.got
  rw [if_neg (by rw [e5]; exact fun q => q rfl)]
 have hV5 : (kx5 x y).V 1 = y := by
  have h6 : (kx5 x y).C 1 = (kx4 x y).V 1 := h5.2 1 (by rw [hN4]; decide)
  have h7 : (kx5 x y).V 1 = (kx5 x y).C 1 := by
   unfold PX.V
   rw [if_neg (by rw [e5]; exact fun q => q rfl)]
  rw [h7, h6]
  unfold PX.V
  rw [hf4 1, if_pos rfl, if_pos hne]
 have hf2 : ∀ n, (kx6 x y).f2 n = if n = 1 then y else [] := fun n => by
  rw [e6]
  show (kx5 x y).f2 n = _
  rw [e5]
  show overF (kx4 x y).f1 (kx4 x y).f2 n = _
  have hg : (kx4 x y).f2 n = [] := by
   show (kx3 x y).f2 n = []
   rw [e3]
   show x.f2 n = []
   rw [h.f2]
  unfold overF
  rw [hg, hf4 n]
  by_cases hn : n = 1
  · rw [if_pos hn, if_pos hne]
  · rw [if_neg hn]
    simp
 refine ⟨k1, k2, k3, k4, k5, k6, hN, hN, by rw [e3]; exact hN, hN4, hN5, by rw [e6]; exact hN5, ?_, hm, by rw [hneed, hz4]; decide, hok, hV5, open_one hne _ hf2, ?_⟩
 · unfold PX.V
   rw [if_neg (fun q => q rfl)]
   exact h.pg 1 (by decide)
 · rw [e6]
   show (kx5 x y).z - (kx5 x y).e = 6
   rw [e5]
   show (kx4 x y).z - ((kx4 x y).e + (kx4 x y).need) = 6
   rw [hz4, he4, hneed]
end Go.Proofs.YtcnlgbjkjlbmbaaGreat

namespace Go.Proofs.YtcnlgbjkjlbmbaaGreat
open Go.RowKit

set_option maxRecDepth 100000 in
theorem slice_of_u8 (u : Int) (w : World) : (Instr.buildSlice 46 1 #[(0, .int .u8 u)]).run Tryz.prog w = .ok (.slice (some ⟨w.heap.size, 0, none⟩) 1 1) (w.alloc (.cells #[.int .u8 u] 5)) := by
 obtain ⟨i0, hi, hz0, hz1, hz2⟩ := info_parts infoU8
 refine run_buildSlice w 46 5 1 _ _ i0 _ Tryz.underlying46 hi hz0 (by rw [hz1]; omega) (by rw [hz1]; omega) ?_
 rw [hz1]
 have hb : ((Array.range (1 * 1)).map ((Value.int .u8 0).cells[· % (Value.int .u8 0).cells.size]!)) = #[Value.int .u8 0] := by
  apply Array.ext
  · simp
  · intro i h1 h2
    simp at h1
    simp [Value.cells, h1]
 rw [hb]
 simp [Instr.fill, Value.cells]
section
variable {ops : Array Oper} {o : Oper} {a : Act} {Q : Exit → Act → World → Prop}
set_option maxRecDepth 100000 in
theorem wpList_load_want {rest : List Oper} {w : World} (hw : Region.wanted o (yielded ops a.tmps) = true) (ty : TypeId) (x : Operand) (ho : o.op = .load ty x)
 (b f : Nat) (hx : a.eval x = .pointer (some ⟨b, f, none⟩)) (cs : List Value) (d : TypeDesc) (hc : w.rangeAt b f cs) (hu : Tryz.prog.underlying ty = some d) (hd : d.isRow = true) (hi : (Tryz.prog.info? ty).map (·.size) = some cs.length)
 (h : wpList Tryz.prog ops Q rest (a.put o.dst (.agg cs.toArray)) w) : wpList Tryz.prog ops Q (o :: rest) a w :=
 BigFrame.wpList_want hw fun _ hK => wp_load_mid ty x ho b f hx cs d hc hu hd hi (hK _ _ h)
end
def Beside (w : World) (S : Nat → Prop) (b : Nat) (y : List UInt8) : Prop := Blk w b 50 (cellsB y).toArray ∧ ¬ S b
set_option maxRecDepth 100000 in
theorem Beside.range {w : World} {S : Nat → Prop} {b : Nat} {y : List UInt8} (h : Beside w S b y) : w.rangeAt b 0 (cellsB y) := fun j u hj => by
 rw [h.1.cell, Nat.zero_add]
 simpa using hj
set_option maxRecDepth 100000 in
theorem Beside.to {w w' : World} {S S' : Nat → Prop} {b : Nat} {y : List UInt8} (h : Beside w S b y) (f : Fr S w w') (hs : ∀ b, S' b → S b ∨ w.heap.size ≤ b) : Beside w' S' b y :=
 ⟨h.1.keep f h.2, fun q => (hs b q).elim h.2 (fun e => by have := h.1.lt; omega)⟩
set_option maxRecDepth 100000 in
theorem Beside.new {w w' : World} {S : Nat → Prop} {b : Nat} {y : List UInt8} (h : Beside w S b y) (f : Fr (fun _ => False) w w') : Beside w' S b y := ⟨h.1.keep f (fun q => q), h.2⟩
set_option maxRecDepth 100000 in
set_option maxHeartbeats 8000000 in
theorem known_any (w : World) : Calls Tryz.prog 8 #[] w fun e w' => e = .returned (.bool true) ∧ Fr (fun _ => False) w w' := by
 obtain ⟨y, hy⟩ : ∃ y, y = pageOf [7] := ⟨_, rfl⟩
 have hyl : y.length = 512 := by rw [hy]; exact pageOf_len _
 have hy0 : y ≠ nought 512 := by
  rw [hy]
  decide +kernel
 obtain ⟨no, hno⟩ : ∃ no, no = nought 512 := ⟨_, rfl⟩
 have hnol : no.length = 512 := by rw [hno]; exact nought_len 512
 have HY := Lib.hid (And.intro hyl (And.intro hy0 (And.intro hy (And.intro hno hnol))))
 have HBG := Lib.hid (begun_any w (pages := 5) (z := 12) (fr := 2) (by decide) (by decide) (by decide) (by decide) (by decide) (by decide))
 clear hyl hy0 hy hno hnol
 go_enter Tryz.func8, Tryz.ntmps8
 go_wp2_with fail
 refine HBG.out.mono ?_
 rintro e w1 ⟨g, p, S0, x0, rfl, hA0, hF0, f1⟩
 have hP := known_pure hF0 HY.out.1 HY.out.2.1
 have HX := Lib.hid hP
 have hpg := pa_pages hA0 hF0.ok
 rw [hF0.N] at hpg
 have HPG := Lib.hid hpg
 have H0 := Lib.hid (And.intro hA0 (And.intro hF0 f1))
 clear hP hpg hA0 hF0 f1 HBG
 go_wp2_with fail
 refine HPG.out.mono ?_
 rintro e w2 ⟨rfl, f2⟩
 have hA2 := H0.out.1.new f2
 have hct := pa_count hA2 H0.out.2.1.ok
 rw [H0.out.2.1.N, H0.out.2.1.z] at hct
 have HCT := Lib.hid hct
 have H2 := Lib.hid (And.intro hA2 (H0.out.2.2.trans f2 (fun _ _ q => q)))
 clear f2 hA2 hct HPG
 go_wp2_with fail
 refine HCT.out.mono ?_
 rintro e w3 ⟨rfl, rfl⟩
 have hsl := slice_of_u8 7 w2
 obtain ⟨w3, hw3⟩ : ∃ w3, w3 = w2.alloc (.cells #[.int .u8 7] 5) := ⟨_, rfl⟩
 have f3 : Fr (fun _ => False) w2 w3 := by rw [hw3]; exact (Fr.refl _ w2).alloc _
 have hrd : Rd w3 (some ⟨w2.heap.size, 0, none⟩) 1 [7] := ⟨rfl, fun _ => ⟨_, rfl, fun j c hc => by
  rw [Addr.add_mid, hw3, (Blk.new w2 5 #[.int .u8 7]).cell]
  cases j with
  | zero => simp at hc; subst hc; rfl
  | succ j => simp at hc⟩⟩
 have HPA := Lib.hid (page_any (c := 1) hrd (by decide))
 rw [← HY.out.2.2.1] at HPA
 have H3 := Lib.hid (And.intro (H2.out.1.new f3) (H2.out.2.trans f3 (fun _ _ q => q)))
 clear f3 hrd HCT
 go_wp2_with fail
 rw [← hw3]
 refine HPA.out.mono ?_
 rintro e w4 ⟨rfl, f4⟩
 obtain ⟨W5, hW5, hb5, hr5, f5, th5⟩ := put_arr w4 50 Tryz.zeroCells50 512 zeroPgCells y HY.out.1
 have hA5 := (H3.out.1.new f4).new f5
 have hF5 : Fr (fun _ => False) w W5 := (H3.out.2.trans f4 (fun _ _ q => q)).trans f5 (fun _ _ q => q)
 have hS5 : ¬ S0 w4.heap.size := fun q => by have := ((H3.out.1.new f4).sub _ q).2; omega
 have hB5 : Beside W5 S0 w4.heap.size y := ⟨hb5, hS5⟩
 have HPU := Lib.hid (pa_put hA5 H0.out.2.1.ok (n := 1) (by rw [H0.out.2.1.N]; decide) HY.out.1)
 have H5 := Lib.hid (And.intro hW5 (And.intro th5 (And.intro hB5 (And.intro hB5.range hF5))))
 clear f4 hW5 hb5 hr5 f5 th5 hA5 hF5 hS5 hB5 hw3 hsl HPA
 go_wp2_with (first
  | (refine wpList_store_mid rfl 50 _ _ rfl w4.heap.size 0 (cellsB y).toArray rfl rfl H5.out.2.1 (by rw [infoPgS]; simp [cellsB_len, HY.out.1]) (all_oneCell_toArray (cellsB_one _)) ?_; rw [← H5.out.1])
  | (refine wpList_load_mid rfl 50 _ rfl w4.heap.size 0 rfl (cellsB y) _ H5.out.2.2.2.1 Tryz.underlying50 rfl (by rw [infoPgS, cellsB_len, HY.out.1]) ?_))
 refine HPU.out.mono ?_
 rintro e w6 ⟨rfl, S6, hA6, hs6, f6⟩
 replace hA6 : PA w6 w.heap.size S6 p g (kx1 x0 y) := hA6
 have hB6 := H5.out.2.2.1.to f6 hs6
 have HAB := Lib.hid (pa_abort hA6 HX.out.1)
 have hF6 : Fr (fun b => w.heap.size ≤ b) w w6 := (H5.out.2.2.2.2.mono (fun _ _ q => q.elim)).trans f6 (fun b _ q => (H0.out.1.sub b q).1)
 have H6 := Lib.hid (And.intro hA6 (And.intro hB6 hF6))
 clear hA6 hs6 f6 hB6 hF6 HPU
 go_wp2_with fail
 refine HAB.out.mono ?_
 rintro e w7 ⟨rfl, S7, hA7, hs7, f7⟩
 replace hA7 : PA w7 w.heap.size S7 p g (kx2 x0 y) := hA7
 have hB7 := H6.out.2.1.to f7 hs7
 have hF7 : Fr (fun b => w.heap.size ≤ b) w w7 := H6.out.2.2.trans f7 (fun b _ q => (H6.out.1.sub b q).1)
 have hgt := pa_get (n := 1) hA7 HX.out.2.1 (by rw [HX.out.2.2.2.2.2.2.2.1]; decide)
 rw [show (kx2 x0 y).V 1 = no by rw [HY.out.2.2.2.1]; exact HX.out.2.2.2.2.2.2.2.2.2.2.2.2.1] at hgt
 have HGT := Lib.hid hgt
 have H7 := Lib.hid (And.intro hA7 (And.intro hB7 hF7))
 clear hA7 hs7 f7 hB7 hF7 hgt HAB
 go_wp2_with fail
 refine HGT.out.mono ?_
 rintro e w8 ⟨rfl, S8, hA8, hs8, f8⟩
 replace hA8 : PA w8 w.heap.size S8 p g (kx3 x0 y) := hA8
 have hB8 := H7.out.2.1.to f8 hs8
 have hF8 : Fr (fun b => w.heap.size ≤ b) w w8 := H7.out.2.2.trans f8 (fun b _ q => (H7.out.1.sub b q).1)
 obtain ⟨W9, hW9, hb9, hr9, f9, th9⟩ := put_arr w8 50 Tryz.zeroCells50 512 zeroPgCells no HY.out.2.2.2.2
 have hA9 := hA8.new f9
 have hB9 := hB8.new f9
 have hF9 : Fr (fun b => w.heap.size ≤ b) w W9 := hF8.trans f9 (fun _ _ q => q.elim)
 have HPU2 := Lib.hid (pa_put hA9 HX.out.2.2.1 (n := 1) (by rw [HX.out.2.2.2.2.2.2.2.2.1]; decide) HY.out.1)
 have hzz : Value.agg Tryz.zeroCells50 = av no := by rw [HY.out.2.2.2.1]; exact zeroPgV
 have HZZ := Lib.hid hzz
 have H9 := Lib.hid (And.intro hW9 (And.intro th9 (And.intro hr9 (And.intro hA9 (And.intro hB9 (And.intro hF9 hB9.range))))))
 have hcmp : ∀ W, (binOp .neq 50 (av no) (.agg Tryz.zeroCells50)).run Tryz.prog W = .ok (.bool false) W := fun W => by
  rw [HZZ.out, pg_neq no no HY.out.2.2.2.2 HY.out.2.2.2.2]
  simp
 clear hA8 hs8 f8 hB8 hF8 hW9 hb9 hr9 f9 th9 hA9 hB9 hF9 hzz HGT
 go_wp2_with (first
  | (refine wpList_store_mid rfl 50 _ _ rfl w8.heap.size 0 (cellsB no).toArray rfl rfl H9.out.2.1 (by rw [infoPgS]; simp [cellsB_len, HY.out.2.2.2.2]) (all_oneCell_toArray (cellsB_one _)) ?_; rw [← H9.out.1])
  | (refine wpList_load_want (by rfl) 50 _ rfl w8.heap.size 0 rfl (cellsB no) _ H9.out.2.2.1 Tryz.underlying50 rfl (by rw [infoPgS, cellsB_len, HY.out.2.2.2.2]) ?_)
  | (refine wpList_load_want (by rfl) 50 _ rfl w4.heap.size 0 rfl (cellsB y) _ H9.out.2.2.2.2.2.2 Tryz.underlying50 rfl (by rw [infoPgS, cellsB_len, HY.out.1]) ?_))
 refine HPU2.out.mono ?_
 rintro e w10 ⟨rfl, S10, hA10, hs10, f10⟩
 replace hA10 : PA w10 w.heap.size S10 p g (kx4 x0 y) := hA10
 have hB10 := H9.out.2.2.2.2.1.to f10 hs10
 have hF10 : Fr (fun b => w.heap.size ≤ b) w w10 := H9.out.2.2.2.2.2.1.trans f10 (fun b _ q => (H9.out.2.2.2.1.sub b q).1)
 have hcm := pa_commit_go hA10 HX.out.2.2.2.1 (by decide) (by rw [HX.out.2.2.2.2.2.2.2.2.2.2.2.2.2.1]; decide) (by rw [HX.out.2.2.2.2.2.2.2.2.2.2.2.2.2.1]; decide) HX.out.2.2.2.2.2.2.2.2.2.2.2.2.2.2.1
 rw [HX.out.2.2.2.2.2.2.2.2.2.2.2.2.2.2.2.1] at hcm
 have HCM := Lib.hid hcm
 have H10 := Lib.hid (And.intro hA10 (And.intro hB10 hF10))
 clear hA10 hs10 f10 hB10 hF10 hcm HPU2
 go_wp2_with fail
 refine HCM.out.mono ?_
 rintro e w11 ⟨rfl, o1, -⟩
 obtain ⟨S11, hA11, hs11, f11⟩ := o1 (by simp)
 replace hA11 : PA w11 w.heap.size S11 p g (kx5 x0 y) := hA11
 have hB11 := H10.out.2.1.to f11 hs11
 have hF11 : Fr (fun b => w.heap.size ≤ b) w w11 := H10.out.2.2.trans f11 (fun b _ q => (H10.out.1.sub b q).1)
 have hgt := pa_get (n := 1) hA11 HX.out.2.2.2.2.1 (by rw [HX.out.2.2.2.2.2.2.2.2.2.2.1]; decide)
 rw [HX.out.2.2.2.2.2.2.2.2.2.2.2.2.2.2.2.2.1] at hgt
 have HGT := Lib.hid hgt
 have H11 := Lib.hid (And.intro hA11 (And.intro hB11 hF11))
 clear hA11 hs11 f11 hB11 hF11 hgt o1 HCM
 go_wp2_with fail
 refine HGT.out.mono ?_
 rintro e w12 ⟨rfl, S12, hA12, hs12, f12⟩
 replace hA12 : PA w12 w.heap.size S12 p g (kx6 x0 y) := hA12
 have hB12 := H11.out.2.1.to f12 hs12
 have hF12 : Fr (fun b => w.heap.size ≤ b) w w12 := H11.out.2.2.trans f12 (fun b _ q => (H11.out.1.sub b q).1)
 obtain ⟨W13, hW13, hb13, hr13, f13, th13⟩ := put_arr w12 50 Tryz.zeroCells50 512 zeroPgCells y HY.out.1
 have hA13 := hA12.new f13
 have hB13 := hB12.new f13
 have hF13 : Fr (fun b => w.heap.size ≤ b) w W13 := hF12.trans f13 (fun _ _ q => q.elim)
 have hdi := pa_dirty hA13 HX.out.2.2.2.2.2.1
 rw [HX.out.2.2.2.2.2.2.2.2.2.2.2.1, HX.out.2.2.2.2.2.2.2.2.2.2.2.2.2.2.2.2.2.1] at hdi
 have HDI := Lib.hid hdi
 have hcmp2 : ∀ W, (binOp .eql 50 (av y) (av y)).run Tryz.prog W = .ok (.bool true) W := fun W => by
  rw [pg_eql y y HY.out.1 HY.out.1]
  simp
 have H13 := Lib.hid (And.intro hW13 (And.intro th13 (And.intro hr13 (And.intro hA13 (And.intro hB13 (And.intro hF13 hB13.range))))))
 clear hA12 hs12 f12 hB12 hF12 hW13 hb13 hr13 f13 th13 hA13 hB13 hF13 hdi HGT hcmp
 go_wp2_with (first
  | (refine wpList_store_mid rfl 50 _ _ rfl w12.heap.size 0 (cellsB y).toArray rfl rfl H13.out.2.1 (by rw [infoPgS]; simp [cellsB_len, HY.out.1]) (all_oneCell_toArray (cellsB_one _)) ?_; rw [← H13.out.1])
  | (refine wpList_load_want (by rfl) 50 _ rfl w12.heap.size 0 rfl (cellsB y) _ H13.out.2.2.1 Tryz.underlying50 rfl (by rw [infoPgS, cellsB_len, HY.out.1]) ?_)
  | (refine wpList_load_want (by rfl) 50 _ rfl w4.heap.size 0 rfl (cellsB y) _ H13.out.2.2.2.2.2.2 Tryz.underlying50 rfl (by rw [infoPgS, cellsB_len, HY.out.1]) ?_))
 refine HDI.out.mono ?_
 rintro e w14 ⟨u, rfl, hrow, f14⟩
 have hu := ints_at (l := [1]) hrow rfl
 have hsl := slice_of_int 1 w14
 obtain ⟨w15, hw15⟩ : ∃ w15, w15 = w14.alloc (.cells #[.int .i64 1] 3) := ⟨_, rfl⟩
 have f15 : Fr (fun _ => False) w14 w15 := by rw [hw15]; exact (Fr.refl _ w14).alloc _
 have hu2 : IntsAt w15 (.slice (some ⟨w14.heap.size, 0, none⟩) 1 1) [1] := ⟨_, 1, rfl, by simp [maxLen], fun _ => ⟨_, _, rfl, fun i z hz => by
  rw [hw15, (Blk.new w14 3 #[.int .i64 1]).cell]
  cases i with
  | zero => simp at hz; subst hz; rfl
  | succ i => simp at hz⟩⟩
 have HSM := Lib.hid (isame_any (ints_new hu f15) hu2 (by simp) (by simp))
 have hrm := fun w' (f : Fr (fun _ => False) w15 w') => pa_room (((H13.out.2.2.2.1.new f14).new f15).new f) HX.out.2.2.2.2.2.1
 rw [HX.out.2.2.2.2.2.2.2.2.2.2.2.2.2.2.2.2.2.2] at hrm
 have HRM := Lib.hid hrm
 have hF15 : Fr (fun b => w.heap.size ≤ b) w w15 := (H13.out.2.2.2.2.2.1.trans f14 (fun _ _ q => q.elim)).trans f15 (fun _ _ q => q.elim)
 have H15 := Lib.hid hF15
 clear hrow hu hu2 f14 f15 hrm hF15 HDI
 go_wp2_with fail
 rw [← hw15]
 refine HSM.out.mono ?_
 rintro e w16 ⟨rfl, f16⟩
 have HR2 := Lib.hid (HRM.out w16 f16)
 have H16 := Lib.hid (H15.out.trans f16 (fun _ _ q => q.elim))
 clear f16 hw15 hsl HSM HRM
 go_wp2_with fail
 refine HR2.out.mono ?_
 rintro e w17 ⟨rfl, f17⟩
 have H17 := Lib.hid (H16.out.trans f17 (fun _ _ q => q.elim))
 clear f17
 go_wp2_with fail
 go_ret
 exact ⟨rfl, H17.out.mono (fun b hb q => by omega)⟩
end Go.Proofs.YtcnlgbjkjlbmbaaGreat

namespace Go.Proofs.YtcnlgbjkjlbmbaaGreat
open Go.RowKit

end Go.Proofs.YtcnlgbjkjlbmbaaGreat


