/- couponlaw04.write. -/
import Derived.Test.YtjdbgojnpnlblaaGreatVzl
import Derived.Test.YtjdbgojnpnlblaaGreatVce
import Derived.Test.YtjdbgojnpnlblaaGreatW10
import Derived.Deep.DeepCutAuto
import Derived.Deep.CutRange
import Derived.BigFrame
namespace Go.Proofs.YtjdbgojnpnlblaaGreat
open Go.RowKit

def zCell : CellD := ⟨0, 0, 0, 0, 0, 0, 0, none, 0, [], nought 128, false⟩
theorem infoCell : (Tryz.prog.info? 93).map (·.size) = some 137 := by kernel_rfl
set_option maxRecDepth 100000 in
theorem zeroCell (w : World) : (zeroValue 93).run Tryz.prog w = .ok (.agg (cellC zCell).toArray) w := by
  have h : (Tryz.prog.info? 93).bind (·.zero) = some (.agg (cellC zCell).toArray) := by kernel_rfl
  cases hi : Tryz.prog.info? 93 with
  | none => rw [hi] at h; cases h
  | some i =>
    rw [hi] at h
    simp only [Option.bind_some] at h
    simp [zeroValue, typeInfo, hi, h]
/-- A row put into a variable of its own. -/
theorem put_gen (w1 : World) (t : TypeId) (Z cs : List Value) (h : cs.length = Z.length) : ∃ W, W = (w1.alloc (.cells Z.toArray t)).setCells w1.heap.size 0 cs ∧ Blk W w1.heap.size t cs.toArray ∧ Fr (fun _ => False) w1 W ∧ (w1.alloc (.cells Z.toArray t)).there w1.heap.size 0 cs.toArray.size := by
  have hb := Blk.new w1 t Z.toArray
  obtain ⟨cs2, j1, j2, j3, j4⟩ := hb.range_set (vs := cs) (o := 0) (by rw [List.size_toArray]; omega)
  have hcs : cs2 = cs.toArray := by
    apply Array.ext_getElem?
    intro q
    by_cases hq : q < cs.length
    · have := j3 q cs[q] (List.getElem?_eq_getElem hq)
      rw [Nat.zero_add] at this
      rw [this, List.getElem?_toArray, List.getElem?_eq_getElem hq]
    · rw [Array.getElem?_eq_none (by rw [j2, List.size_toArray]; omega), Array.getElem?_eq_none (by rw [List.size_toArray]; omega)]
  rw [hcs] at j1
  exact ⟨_, rfl, j1, Fr.setCells (.inr (Nat.le_refl _)) ((Fr.refl _ w1).alloc _), hb.there (by rw [List.size_toArray, List.size_toArray]; omega)⟩
theorem st128 {w : World} {g : Nat} {s0 s : List UInt8} (h : Blk w g 45 (cellsB s0).toArray) (h0 : s0.length = 128) (hs : s.length = 128) : w.there g 0 (cellsB s).toArray.size ∧ Blk (w.setCells g 0 (cellsB s)) g 45 (cellsB s).toArray ∧ Fr (fun b => b = g) w (w.setCells g 0 (cellsB s)) := by
  have h2 := h.over (o := 0) (m := s) (by omega)
  rw [patch_all (by rw [h0, hs])] at h2
  exact ⟨h.there (by simp [cellsB_len, h0, hs]), h2, Fr.setCells (F := fun b => b = g) (.inl rfl) (Fr.refl _ _)⟩
theorem cell_facts {w : World} {g : Nat} {x : CellD} (h : Blk w g 93 (cellC x).toArray) (hs : x.sec.length = 128) : w.cell? ⟨g, 0, none⟩ = some (.int .i64 x.at_) ∧ w.cell? ⟨g, 1, none⟩ = some (.int .i64 x.k) ∧ w.cell? ⟨g, 2, none⟩ = some (.int .i64 x.i) ∧ w.cell? ⟨g, 3, none⟩ = some (.int .u64 (x.c : Nat)) ∧ w.cell? ⟨g, 4, none⟩ = some (.int .u64 (x.s : Nat)) ∧
    w.cell? ⟨g, 7, none⟩ = some (.slice x.bA x.b.length x.bc) ∧ w.cell? ⟨g, 136, none⟩ = some (.bool x.torn) ∧ w.rangeAt g 5 [.int .u64 (x.tc : Nat), .int .i64 x.tn] ∧ w.rangeAt g 8 (cellsB x.sec) := by
  refine ⟨(h.cell 0).trans rfl, (h.cell 1).trans rfl, (h.cell 2).trans rfl, (h.cell 3).trans rfl, (h.cell 4).trans rfl, (h.cell 7).trans rfl, ?_, fun j v hv => ?_, fun j v hv => ?_⟩
  · rw [h.cell]
    simp [cellC, List.getElem?_append_right, cellsB_len, hs]
  · rw [h.cell, List.getElem?_toArray]
    match j, hv with
    | 0, hv => exact hv
    | 1, hv => exact hv
    | j + 2, hv => simp at hv
  · rw [h.cell, List.getElem?_toArray, Nat.add_comm]
    show (cellsB x.sec ++ [Value.bool x.torn])[j]? = some v
    rw [List.getElem?_append_left (List.getElem?_eq_some_iff.1 hv).1]
    exact hv
theorem cell_nums {w : World} {g : Nat} {x : CellD} (h : Blk w g 93 (cellC x).toArray) (hs : x.sec.length = 128) : w.cell? ⟨g, 0, none⟩ = some (.int .i64 x.at_) ∧ w.cell? ⟨g, 1, none⟩ = some (.int .i64 x.k) ∧ w.cell? ⟨g, 2, none⟩ = some (.int .i64 x.i) ∧ w.cell? ⟨g, 3, none⟩ = some (.int .u64 (x.c : Nat)) ∧ w.cell? ⟨g, 4, none⟩ = some (.int .u64 (x.s : Nat)) ∧
    w.cell? ⟨g, 7, none⟩ = some (.slice x.bA x.b.length x.bc) ∧ w.cell? ⟨g, 136, none⟩ = some (.bool x.torn) := by
  obtain ⟨h0, h1, h2, h3, h4, h5, h6, _⟩ := cell_facts h hs
  exact ⟨h0, h1, h2, h3, h4, h5, h6⟩
theorem tornOf_len {a b : List UInt8} (ha : a.length = 128) (hb : b.length = 128) : (tornOf a b).length = 128 := by
  unfold tornOf
  simp
  omega
theorem Rd.keepP {F : Nat → Prop} {w w' : World} {A : Option Addr} {n : Nat} {l : List UInt8} (h : Rd w A n l) (f : Fr F w w') (hF : 0 < n → ∀ ad, A = some ad → ¬ F ad.block) : Rd w' A n l := by
  rcases Nat.eq_zero_or_pos n with rfl | hp
  · exact ⟨h.1, fun hn => absurd hn (by omega)⟩
  · exact h.keep f (hF hp)
/-- What stands in a round's variables. -/
def Rnd2 (wr wx : World) (g5 g6 : Nat) (x : CellD) : Prop := Blk wx g5 93 (cellC x).toArray ∧ (∃ s : List UInt8, s.length = 128 ∧ Blk wx g6 45 (cellsB s).toArray) ∧ Fr (fun _ => False) wr wx
theorem Rnd2.new {wr wx wy : World} {g5 g6 : Nat} {x : CellD} (h : Rnd2 wr wx g5 g6 x) (f : Fr (fun _ => False) wx wy) : Rnd2 wr wy g5 g6 x := by
  obtain ⟨h1, ⟨s, h2, h3⟩, h4⟩ := h
  exact ⟨h1.keep f (fun q => q), ⟨s, h2, h3.keep f (fun q => q)⟩, h4.trans f (fun _ _ q => q)⟩
theorem Rnd2.put {wr wx : World} {g5 g6 : Nat} {x : CellD} {s : List UInt8} (h : Rnd2 wr wx g5 g6 x) (hne : g5 ≠ g6) (hg : wr.heap.size ≤ g6) (hs : s.length = 128) : wx.there g6 0 (cellsB s).toArray.size ∧ Rnd2 wr (wx.setCells g6 0 (cellsB s)) g5 g6 x := by
  obtain ⟨h1, ⟨s0, h2, h3⟩, h4⟩ := h
  obtain ⟨q1, q2, q3⟩ := st128 h3 h2 hs
  exact ⟨q1, h1.keep q3 hne, ⟨s, hs, q2⟩, h4.trans q3 (fun i hi e => by omega)⟩
/-- A disk that has no fuse, with so many sectors. -/
theorem wpList_load_want {ops : Array Oper} {o : Oper} {a : Act} {Q : Exit → Act → World → Prop} {rest : List Oper} {w : World} (hw : Region.wanted o (yielded ops a.tmps) = true) (ty : TypeId) (x : Operand) (ho : o.op = .load ty x)
    (b f : Nat) (hx : a.eval x = .pointer (some ⟨b, f, none⟩)) (cs : List Value) (d : TypeDesc) (hc : w.rangeAt b f cs) (hu : Tryz.prog.underlying ty = some d) (hd : d.isRow = true) (hi : (Tryz.prog.info? ty).map (·.size) = some cs.length)
    (h : wpList Tryz.prog ops Q rest (a.put o.dst (.agg cs.toArray)) w) : wpList Tryz.prog ops Q (o :: rest) a w :=
  BigFrame.wpList_want hw fun _ hK => wp_load_mid ty x ho b f hx cs d hc hu hd hi (hK _ _ h)
def Ods (w : World) (B g : Nat) (P0 : Nat → Prop) (S N m : Nat) : Prop := ∃ P d, DAt w B P g d ∧ d.free ∧ d.rd.length = N ∧ (∀ j, (d.vs j).length ≤ m) ∧ ∀ b, P b → P0 b ∨ S ≤ b
theorem ods_end {w wr wt w12 : World} {B g N k j : Nat} {P P1 P2 : Nat → Prop} {d1 : DS} {s : List UInt8} (HF : Fr P w wr) (R : Fr (fun _ => False) wr wt) (hd : DAt w12 B P2 g (d1.write j s)) (hp2 : ∀ b, P2 b → P1 b ∨ wt.heap.size ≤ b) (f12 : Fr P1 wt w12) (hfr : d1.free) (hlen : d1.rd.length = N) (hvs : ∀ j, (d1.vs j).length ≤ 100 + 2 * k) (hsub : ∀ b, P1 b → P b ∨ w.heap.size ≤ b) :
    Ods w12 B g P w.heap.size N (100 + 2 * (k + 1)) ∧ Fr P w w12 := by
  have s1 := HF.size
  have s2 := R.size
  refine ⟨⟨P2, d1.write j s, hd, (write_free hfr j s).1, by rw [write_len, hlen], fun i => ?_, fun b hb => (hp2 b hb).elim (hsub b) (fun q => .inr (by omega))⟩, (HF.trans R (fun _ _ q => q.elim)).trans f12 (fun i hi q => (hsub i q).resolve_right (by omega))⟩
  have h1 := write_vs_le d1 j i s
  have h2 := hvs i
  omega
theorem ods_same {w wr wt : World} {B g N k : Nat} {P P1 : Nat → Prop} {d1 : DS} (HF : Fr P w wr) (R : Fr (fun _ => False) wr wt) (hd : DAt wr B P1 g d1) (hfr : d1.free) (hlen : d1.rd.length = N) (hvs : ∀ j, (d1.vs j).length ≤ 100 + 2 * k) (hsub : ∀ b, P1 b → P b ∨ w.heap.size ≤ b) :
    Ods wt B g P w.heap.size N (100 + 2 * (k + 1)) ∧ Fr P w wt :=
  ⟨⟨P1, d1, hd.new R, hfr, hlen, fun i => by have := hvs i; omega, hsub⟩, HF.trans R (fun _ _ q => q.elim)⟩
set_option maxRecDepth 100000 in
set_option maxHeartbeats 8000000 in
theorem lwrite_any {w0 w : World} {B g : Nat} {P : Nat → Prop} {d : DS} {v : Value} {xs : List CellD} (hx : CellV w0 v xs) (hxl : xs.length ≤ 60) (hB : w0.heap.size ≤ B) (f0 : Fr (fun b => B ≤ b) w0 w) (h : DAt w B P g d) (hfree : d.free) (hvs : ∀ j, (d.vs j).length ≤ 100) :
    Calls Tryz.prog 9 #[.pointer (some ⟨g, 0, none⟩), v] w fun e w' => (∃ r, e = .returned r) ∧ Ods w' B g P w.heap.size d.rd.length 220 ∧ Fr P w w' := by
  obtain ⟨A, cap, rfl, hxm, h3⟩ := hx
  obtain ⟨n, hn⟩ : ∃ n, n = xs.length := ⟨_, rfl⟩
  have hn60 : n ≤ 60 := by omega
  obtain ⟨N, hN⟩ : ∃ N, N = d.rd.length := ⟨_, rfl⟩
  have HD0 : Hid (Ods w B g P w.heap.size N (100 + 2 * 0)) := Lib.hid ⟨P, d, h, hfree, hN.symm, hvs, fun b q => .inl q⟩
  have HH := Lib.hid (And.intro hn (And.intro h3 (And.intro hB (And.intro f0 (And.intro (fun b q => (h.2 b q).1 : ∀ b, P b → B ≤ b) h.g_lt.2)))))
  have HN8 := Lib.hid (show N ≤ 8192 by have := h.len; omega)
  rw [← hn, ← hN]
  clear hn h3 hB f0 h hfree hvs hxm hxl hN
  go_enter Tryz.func9, Tryz.ntmps9
  go_wp2_with fail
  go_loopw [4] (fun i wr => ∃ k : Nat, i = .int .i64 k ∧ k ≤ n ∧ Hid (Ods wr B g P w.heap.size N (100 + 2 * k)) ∧ Hid (Fr P w wr)) (fun i _ => n - (intOf i).toNat)
  case atStart => exact ⟨0, rfl, Nat.zero_le _, HD0, Lib.hid (Fr.refl _ _)⟩
  case round =>
    obtain ⟨k, rfl, hk, HQ, HF⟩ := hrel
    clear HD0
    by_cases hlt : k < n
    · obtain ⟨b, off, rfl, hat⟩ := HH.out.2.1 (by have := HH.out.1; omega)
      obtain ⟨x, hx⟩ : ∃ x, xs[k]? = some x := ⟨_, List.getElem?_eq_getElem (by have := HH.out.1; omega)⟩
      obtain ⟨hra, hin⟩ := hat k x hx
      have hF0 : Fr (fun b => B ≤ b) w0 wr := HH.out.2.2.2.1.trans HF.out (fun i hi q => HH.out.2.2.2.2.1 i q)
      have hr' : wr.rangeAt b (off + k * 137) (cellC x) := fun j u hj => by
        have hbl := World.block_lt_of_cell? w0 _ (hra j u hj)
        exact (hF0.cell hbl (fun q => by have := HH.out.2.2.1; have hbl' : b < w0.heap.size := hbl; omega)).trans (hra j u hj)
      have hin' : CellIn wr x := ⟨hin.c1, hin.s1, hin.t1, hin.sl, hin.rd.keepP hF0 (fun hp ad e q => by
        have h1 := HH.out.2.2.1
        obtain ⟨ad', e', hlt'⟩ := hin.rd.lt hp
        rw [e] at e'
        injection e' with e'
        subst e'
        omega), hin.bl⟩
      have hsl := hin.sl
      obtain ⟨W5, hW5, hb5, f5, th5⟩ := put_gen wr 93 (cellC zCell) (cellC x) (by rw [cellC_len hsl, cellC_len (nought_len _)])
      obtain ⟨W6, hW6, hb6, _, f6, th6⟩ := put128 W5 x.sec hsl
      have hr5 := (cell_facts hb5 hsl).2.2.2.2.2.2.2.2
      have hlc := cellC_len hsl
      have R6 : Rnd2 wr W6 wr.heap.size W5.heap.size x := ⟨hb5.keep f6 (fun q => q), ⟨_, hsl, hb6⟩, f5.trans f6 (fun _ _ q => q)⟩
      have hne : wr.heap.size ≠ W5.heap.size := by have := hb5.lt; omega
      obtain ⟨g5, hg5⟩ : ∃ g5, g5 = wr.heap.size := ⟨_, rfl⟩
      obtain ⟨g6, hg6⟩ : ∃ g6, g6 = W5.heap.size := ⟨_, rfl⟩
      have HG := Lib.hid (And.intro (show g5 ≠ g6 by rw [hg5, hg6]; exact hne) (show wr.heap.size ≤ g6 by rw [hg6]; exact f5.size))
      have HX := Lib.hid (And.intro hr' (And.intro hin' (And.intro hlc (And.intro hr5 (And.intro hsl (And.intro th5 th6))))))
      have HE := Lib.hid (And.intro hW5 hW6)
      have HR6 : Hid (Rnd2 wr W6 g5 g6 x) := Lib.hid (by rw [hg5, hg6]; exact R6)
      have HG5 := Lib.hid (And.intro hg5 hg6)
      have hi0 : (0 : Int) ≤ (k : Int) := by omega
      have hi1 : (k : Int) < (n : Int) := by omega
      clear hx hra hin hF0 hr' hin' hsl hb5 hb6 f5 f6 th5 th6 hr5 hlc R6 hne hW5 hW6 hat hg5 hg6
      have C6 := cell_nums HR6.out.1 HX.out.2.2.2.2.1
      obtain ⟨c0, c1, c2, c3, c4, c7, c136⟩ := C6
      rw [HG5.out.1] at c0 c1 c2 c3 c4 c7 c136
      go_upto_if 24 with (first
        | (refine wpList_load_mid rfl 93 _ rfl b (off + k * 137) rfl (cellC x) _ HX.out.1 Tryz.underlying93 rfl (by rw [infoCell, HX.out.2.2.1]) ?_)
        | (refine wpList_zero_agg rfl 93 rfl zeroCell ?_)
        | (refine wpList_store_mid rfl 93 _ _ rfl wr.heap.size 0 (cellC x).toArray rfl rfl HX.out.2.2.2.2.2.1 (by rw [infoCell]; exact congrArg some HX.out.2.2.1.symm) (all_oneCell_toArray (cellC_one _)) ?_; rw [← HE.out.1])
        | (refine wpList_zero rfl 45 rfl zeroSector ?_)
        | (refine wpList_load_mid rfl 45 _ rfl wr.heap.size 8 rfl (cellsB x.sec) _ HX.out.2.2.2.1 Tryz.underlying45 rfl (by rw [infoSector, cellsB_len, HX.out.2.2.2.2.1]) ?_)
        | (refine wpList_store_mid rfl 45 _ _ rfl W5.heap.size 0 (cellsB x.sec).toArray rfl rfl HX.out.2.2.2.2.2.2 (by rw [infoSector]; simp [cellsB_len, HX.out.2.2.2.2.1]) (all_oneCell_toArray (cellsB_one _)) ?_; rw [← HE.out.2]))
      rw [← HG5.out.1] at c0 c1 c2 c3 c4 c7 c136
      (try simp only [← HG5.out.1, ← HG5.out.2])
      go_cut [24] from 10 to 84 (fun s24 wx => Hid (Rnd2 wr wx g5 g6 x))
      case first =>
        by_cases hk1 : x.k = 1
        · have b1 : (x.k == 1) = true := by simp [hk1]
          clear hk1
          go_wp2_with fail
          refine (rhead_any W6 x.c x.s HX.out.2.1.c1 HX.out.2.1.s1).mono ?_
          rintro e w7 ⟨rfl, f7⟩
          obtain ⟨t1, R7⟩ := (HR6.out.new f7).put HG.out.1 HG.out.2 (hdS_len x.c x.s)
          have H7 := Lib.hid (And.intro t1 (And.intro R7 (hdS_len x.c x.s)))
          generalize hdS x.c x.s = s7 at *
          clear t1 R7 f7 c0 c1 c2 c3 c4 c7 c136
          go_wp2_with (refine wpList_store_mid rfl 45 _ _ rfl g6 0 (cellsB s7).toArray rfl rfl H7.out.1 (by rw [infoSector]; simp [cellsB_len, H7.out.2.2]) (all_oneCell_toArray (cellsB_one _)) ?_)
          go_meet
          exact Lib.hid H7.out.2.1
        · have b1 : (x.k == 1) = false := by simp [hk1]
          clear hk1
          go_wp2_with fail
          go_meet
          exact HR6
      case rest =>
        have HR := hcut
        clear hcut HR6 c0 c1 c2 c3 c4 c7 c136
        go_upto_region 7 with fail
        obtain ⟨bb, hbb⟩ : ∃ bb : Bool, bb = (decide (x.k = 2) && (decide (x.b.length ≤ 3000) && mayT x.tc x.tn)) := ⟨_, rfl⟩
        have HBB := Lib.hid hbb
        clear hbb
        go_cut [43] from 10 to 84 (fun s43 wx => s43 = .bool bb ∧ Hid (Rnd2 wr wx g5 g6 x))
        case first =>
          obtain ⟨c0, c1, c2, c3, c4, c7, c136, c5, _⟩ := cell_facts HR.out.1 HX.out.2.2.2.2.1
          have HC5 := Lib.hid c5
          have hbl := HX.out.2.1.bl
          clear c0 c2 c3 c4 c136 c5
          by_cases hk2 : x.k = 2
          · have b2 : (x.k == 2) = true := by simp [hk2]
            by_cases hl3 : x.b.length ≤ 3000
            · have b3 : ((x.b.length : Nat) : Int) ≤ 3000 := by omega
              have hbv : bb = mayT x.tc x.tn := by rw [HBB.out, decide_eq_true hk2, decide_eq_true hl3]; rfl
              have HBV := Lib.hid hbv
              clear hk2 hl3 hbv
              go_wp2_with (refine wpList_load_want (by first | rfl | go_simp) 91 _ rfl g5 5 rfl [.int .u64 (x.tc : Nat), .int .i64 x.tn] _ HC5.out Tryz.underlying91 rfl (by rw [infoTag]; rfl) ?_)
              refine (rmay_any _ x.tc x.tn).mono ?_
              rintro e w7 ⟨rfl, f7⟩
              rw [← HBV.out]
              have H7 := Lib.hid (HR.out.new f7)
              clear f7
              go_wp2_with fail
              go_meet
              exact ⟨rfl, H7⟩
            · have b3 : ¬ ((x.b.length : Nat) : Int) ≤ 3000 := by omega
              obtain rfl : bb = false := by rw [HBB.out, decide_eq_false hl3]; simp
              clear hk2 hl3 HBB
              go_wp2_with fail
              go_meet
              exact ⟨rfl, HR⟩
          · have b2 : (x.k == 2) = false := by simp [hk2]
            obtain rfl : bb = false := by rw [HBB.out, decide_eq_false hk2]; simp
            clear hk2 HBB
            go_wp2_with fail
            go_meet
            exact ⟨rfl, HR⟩
        case rest =>
          obtain ⟨rfl, HR7⟩ := hcut
          clear HR
          go_upto_if 43 with fail
          go_cut [7] from 10 to 84 (fun s7 wx => Hid (Rnd2 wr wx g5 g6 x))
          case first =>
            cases bb with
            | false =>
              go_wp2_with fail
              go_meet
              exact HR7
            | true =>
              have hb2 : x.b.length ≤ 3000 ∧ mayT x.tc x.tn = true := by
                have := HBB.out.symm
                simp only [Bool.and_eq_true, decide_eq_true_eq] at this
                exact this.2
              obtain ⟨hb3, hmt⟩ := hb2
              obtain ⟨tn, htn, htn1⟩ : ∃ tn : Nat, x.tn = tn ∧ tn ≤ 9223372036854775807 := by
                unfold mayT at hmt
                simp only [Bool.and_eq_true, decide_eq_true_eq] at hmt
                exact ⟨x.tn.toNat, by omega, by omega⟩
              obtain ⟨c0, c1, c2, c3, c4, c7, c136, c5, _⟩ := cell_facts HR7.out.1 HX.out.2.2.2.2.1
              rw [htn] at c5
              have HC5 := Lib.hid c5
              have HRW := Lib.hid (rrow_any (cb := x.bc) (HX.out.2.1.rd.keep HR7.out.2.2 (fun _ _ q => q)) (by omega) x.tc tn HX.out.2.1.t1 htn1)
              have HB3 := Lib.hid hb3
              clear c0 c1 c3 c4 c136 c5 hmt htn htn1 hb3
              go_wp2_with (refine wpList_load_mid rfl 91 _ rfl g5 5 rfl [.int .u64 (x.tc : Nat), .int .i64 (tn : Nat)] _ HC5.out Tryz.underlying91 rfl (by rw [infoTag]; rfl) ?_)
              refine HRW.out.mono ?_
              rintro e w8 ⟨v8, rfl, hv8, f8⟩
              have R8 := HR7.out.new f8
              obtain ⟨A8, cp8, rfl, hc1, hc2, h8⟩ := hv8
              rw [secs_len] at *
              obtain ⟨M, hM⟩ : ∃ M, M = (many x.b.length + 1) / 2 := ⟨_, rfl⟩
              obtain ⟨c0, c1, c2', c3, c4, c7', c136⟩ := cell_nums R8.1 HX.out.2.2.2.2.1
              have HR8 := Lib.hid (And.intro R8 h8)
              have HM9 := Lib.hid hM
              rw [← hM] at hc1 ⊢
              have hM9 : M ≤ 9223372036854775807 := by simp only [maxLen] at hc2; omega
              clear c0 c1 c3 c4 c136 c7' R8 h8 f8 hM hc1 hc2 c2 c7 HRW HC5
              by_cases hi0 : x.i ≥ 0
              · by_cases hi1 : x.i < (M : Int)
                · obtain ⟨j, hj⟩ : ∃ j : Nat, x.i = j := ⟨x.i.toNat, by omega⟩
                  obtain ⟨b8, o8, rfl, hsec⟩ := HR8.out.2 (by rw [← HM9.out]; omega)
                  have hs : (secs (rowB x.tc tn x.b) ((many x.b.length + 1) / 2))[j]? = some (((rowB x.tc tn x.b).drop (128 * j)).take 128) := secs_at _ (by rw [← HM9.out]; omega)
                  obtain ⟨hs8, hr8⟩ := hsec j _ hs
                  obtain ⟨s, hse⟩ : ∃ s, s = ((rowB x.tc tn x.b).drop (128 * j)).take 128 := ⟨_, rfl⟩
                  rw [← hse] at hs8 hr8
                  obtain ⟨t1, R9⟩ := HR8.out.1.put HG.out.1 HG.out.2 hs8
                  have H9 := Lib.hid (And.intro t1 (And.intro R9 (And.intro hs8 hr8)))
                  have hi0' : (0 : Int) ≤ x.i := hi0
                  rw [hj] at c2' hi0 hi1 hi0'
                  clear t1 R9 hs8 hr8 hse hs hsec hj
                  go_wp2_with (first
                    | (refine wpList_load_mid rfl 45 _ rfl b8 (o8 + j * 128) rfl (cellsB s) _ H9.out.2.2.2 Tryz.underlying45 rfl (by rw [infoSector, cellsB_len, H9.out.2.2.1]) ?_)
                    | (refine wpList_store_mid rfl 45 _ _ rfl g6 0 (cellsB s).toArray rfl rfl H9.out.1 (by rw [infoSector]; simp [cellsB_len, H9.out.2.2.1]) (all_oneCell_toArray (cellsB_one _)) ?_))
                  go_meet
                  exact Lib.hid H9.out.2.1
                · go_wp2_with fail
                  go_meet
                  exact Lib.hid HR8.out.1
              · go_wp2_with fail
                go_meet
                exact Lib.hid HR8.out.1
          case rest =>
            have HR9 := hcut
            clear hcut HR7 HBB
            obtain ⟨c0, c1, c2, c3, c4, c7, c136⟩ := cell_nums HR9.out.1 HX.out.2.2.2.2.1
            clear c1 c2 c3 c4 c7
            obtain ⟨s, hs, hbs⟩ := HR9.out.2.1
            have HS := Lib.hid (And.intro hs hbs)
            obtain ⟨P1, d1, hD, hfr, hlen, hvs, hsub⟩ := HQ.out
            have HQ1 := Lib.hid (And.intro hD (And.intro hfr (And.intro hlen (And.intro hvs hsub))))
            obtain ⟨z, e9, hz128, HRD, hins⟩ : ∃ z e9, z.length = 128 ∧ Hid (Calls Tryz.prog 44 #[.pointer (some ⟨g, 0, none⟩), .int .i64 x.at_] wc fun e w' => e = .returned (.tuple #[av z, .int .i64 e9]) ∧ Fr (fun _ => False) wc w') ∧ (e9 = 0 ∧ (∃ j : Nat, x.at_ = j ∧ j < d1.rd.length) ∨ e9 = 2 ∧ (x.at_ < 0 ∨ (d1.rd.length : Int) ≤ x.at_)) := by
              have hD9 := hD.new HR9.out.2.2
              by_cases hin : 0 ≤ x.at_ ∧ x.at_ < (d1.rd.length : Int)
              · obtain ⟨j, hj⟩ : ∃ j : Nat, x.at_ = j := ⟨x.at_.toNat, by omega⟩
                have hjN : j < d1.rd.length := by omega
                rw [hj]
                exact ⟨_, 0, hD9.get128 hjN, Lib.hid (aread_any hD9 hjN), .inl ⟨rfl, j, rfl, hjN⟩⟩
              · exact ⟨_, 2, nought_len _, Lib.hid (aread_bad hD9 (by omega)), .inr ⟨rfl, by omega⟩⟩
            have HINS := Lib.hid hins
            have HZ := Lib.hid hz128
            clear hs hbs hD hfr hlen hvs hsub hz128 hins
            go_wp2_with fail
            refine HRD.out.mono ?_
            rintro e w10 ⟨rfl, f10⟩
            clear HRD
            obtain ⟨W11, hW11, hb11, _, f11, th11⟩ := put128 w10 z HZ.out
            have f910 := f10.trans f11 (fun _ _ q => q)
            have R11 := HR9.out.new f910
            have hbs11 := HS.out.2.keep f910 (fun q => q)
            obtain ⟨c0', c1, c2, c3, c4, c7, c136'⟩ := cell_nums R11.1 HX.out.2.2.2.2.1
            have HE11 := Lib.hid hW11
            have H11 := Lib.hid (And.intro R11 (And.intro hbs11 (And.intro hb11 th11)))
            have HZ11 := Lib.hid (And.intro (sec_range HZ.out hb11) (sec_range HS.out.1 hbs11))
            clear R11 hbs11 hb11 th11 f910 f10 f11 hW11 c1 c2 c3 c4 c7 c0 c136
            obtain ⟨tn, htn⟩ : ∃ tn, tn = x.torn := ⟨_, rfl⟩
            rw [← htn] at c136'
            rcases HINS.out with ⟨rfl, j, hj, hjN⟩ | ⟨rfl, hout⟩
            · have HJ := Lib.hid hjN
              have HJX := Lib.hid hj
              rw [hj] at c0'
              clear hj hjN htn
              cases tn with
              | false =>
                have HWR := Lib.hid (awrite_any (HQ1.out.1.new H11.out.1.2.2) (i := j) HJ.out HS.out.1 (by have := HQ1.out.2.2.2.1 j; omega))
                go_wp2_with (first
                  | (refine wpList_zero rfl 45 rfl zeroSector ?_)
                  | (refine wpList_store_mid rfl 45 _ _ rfl w10.heap.size 0 (cellsB z).toArray rfl rfl H11.out.2.2.2 (by rw [infoSector]; simp [cellsB_len, HZ.out]) (all_oneCell_toArray (cellsB_one _)) ?_; rw [← HE11.out])
                  | (refine wpList_load_mid rfl 45 _ rfl g6 0 rfl (cellsB s) _ HZ11.out.2 Tryz.underlying45 rfl (by rw [infoSector, cellsB_len, HS.out.1]) ?_))
                refine HWR.out.mono ?_
                rintro e w12 ⟨rfl, ⟨P2, hp1, hp2⟩, f12⟩
                have H12 : Hid (Ods w12 B g P w.heap.size N (100 + 2 * (k + 1)) ∧ Fr P w w12) := Lib.hid (ods_end HF.out H11.out.1.2.2 hp1 hp2 f12 HQ1.out.2.1 HQ1.out.2.2.1 HQ1.out.2.2.2.1 HQ1.out.2.2.2.2)
                clear hp1 hp2 f12 HWR
                go_wp2_with fail
                exact ⟨⟨k + 1, by go_num, hlt, Lib.hid H12.out.1, Lib.hid H12.out.2⟩, by simp [intOf]; omega⟩
              | true =>
                have hto := tornOf_len HZ.out HS.out.1
                have HTO := Lib.hid (rtorn_any W11 z s HZ.out HS.out.1)
                go_wp2_with (first
                  | (refine wpList_zero rfl 45 rfl zeroSector ?_)
                  | (refine wpList_store_mid rfl 45 _ _ rfl w10.heap.size 0 (cellsB z).toArray rfl rfl H11.out.2.2.2 (by rw [infoSector]; simp [cellsB_len, HZ.out]) (all_oneCell_toArray (cellsB_one _)) ?_; rw [← HE11.out])
                  | (refine wpList_load_mid rfl 45 _ rfl g6 0 rfl (cellsB s) _ HZ11.out.2 Tryz.underlying45 rfl (by rw [infoSector, cellsB_len, HS.out.1]) ?_)
                  | (refine wpList_load_mid rfl 45 _ rfl w10.heap.size 0 rfl (cellsB z) _ HZ11.out.1 Tryz.underlying45 rfl (by rw [infoSector, cellsB_len, HZ.out]) ?_))
                refine HTO.out.mono ?_
                rintro e w12 ⟨rfl, f12⟩
                obtain ⟨u, hu⟩ : ∃ u, u = tornOf z s := ⟨_, rfl⟩
                rw [← hu] at hto ⊢
                obtain ⟨t13, R13⟩ := (H11.out.1.new f12).put HG.out.1 HG.out.2 hto
                obtain ⟨_, b13, _⟩ := st128 (H11.out.2.1.keep f12 (fun q => q)) HS.out.1 hto
                obtain ⟨c0'', c1, c2, c3, c4, c7, c136''⟩ := cell_nums R13.1 HX.out.2.2.2.2.1
                rw [HJX.out] at c0''
                have HWR := Lib.hid (awrite_any (HQ1.out.1.new R13.2.2) (i := j) HJ.out hto (by have := HQ1.out.2.2.2.1 j; omega))
                have H13 := Lib.hid (And.intro t13 (And.intro R13 (And.intro hto (sec_range hto b13))))
                clear t13 R13 hto b13 hu HTO f12 c1 c2 c3 c4 c7 c136''
                go_wp2_with (first
                  | (refine wpList_store_mid rfl 45 _ _ rfl g6 0 (cellsB u).toArray rfl rfl H13.out.1 (by rw [infoSector]; simp [cellsB_len, H13.out.2.2.1]) (all_oneCell_toArray (cellsB_one _)) ?_)
                  | (refine wpList_load_mid rfl 45 _ rfl g6 0 rfl (cellsB u) _ H13.out.2.2.2 Tryz.underlying45 rfl (by rw [infoSector, cellsB_len, H13.out.2.2.1]) ?_))
                refine HWR.out.mono ?_
                rintro e w14 ⟨rfl, ⟨P2, hp1, hp2⟩, f14⟩
                have H12 : Hid (Ods w14 B g P w.heap.size N (100 + 2 * (k + 1)) ∧ Fr P w w14) := Lib.hid (ods_end HF.out H13.out.2.1.2.2 hp1 hp2 f14 HQ1.out.2.1 HQ1.out.2.2.1 HQ1.out.2.2.2.1 HQ1.out.2.2.2.2)
                clear hp1 hp2 f14 HWR
                go_wp2_with fail
                exact ⟨⟨k + 1, by go_num, hlt, Lib.hid H12.out.1, Lib.hid H12.out.2⟩, by simp [intOf]; omega⟩
            · have HWR := Lib.hid (awrite_bad (HQ1.out.1.new H11.out.1.2.2) (i := x.at_) hout (s := s))
              clear hout htn
              go_wp2_with (first
                | (refine wpList_zero rfl 45 rfl zeroSector ?_)
                | (refine wpList_store_mid rfl 45 _ _ rfl w10.heap.size 0 (cellsB z).toArray rfl rfl H11.out.2.2.2 (by rw [infoSector]; simp [cellsB_len, HZ.out]) (all_oneCell_toArray (cellsB_one _)) ?_; rw [← HE11.out])
                | (refine wpList_load_mid rfl 45 _ rfl g6 0 rfl (cellsB s) _ HZ11.out.2 Tryz.underlying45 rfl (by rw [infoSector, cellsB_len, HS.out.1]) ?_))
              refine HWR.out.mono ?_
              rintro e w12 ⟨rfl, f12⟩
              have H12 : Hid (Ods w12 B g P w.heap.size N (100 + 2 * (k + 1)) ∧ Fr P w w12) := Lib.hid (ods_same HF.out (H11.out.1.2.2.trans f12 (fun _ _ q => q)) HQ1.out.1 HQ1.out.2.1 HQ1.out.2.2.1 HQ1.out.2.2.2.1 HQ1.out.2.2.2.2)
              clear f12 HWR
              go_wp2_with fail
              exact ⟨⟨k + 1, by go_num, hlt, Lib.hid H12.out.1, Lib.hid H12.out.2⟩, by simp [intOf]; omega⟩
    · obtain rfl : n = k := by omega
      clear hlt hk
      go_wp2_with fail
      refine bodyPost_end (results_none rfl _ _ _) rfl ?_
      refine ⟨⟨_, rfl⟩, ?_, HF.out⟩
      obtain ⟨P', d', q1, q2, q3, q4, q5⟩ := HQ.out
      exact ⟨P', d', q1, q2, q3, fun j => by have := q4 j; omega, q5⟩
end Go.Proofs.YtjdbgojnpnlblaaGreat
