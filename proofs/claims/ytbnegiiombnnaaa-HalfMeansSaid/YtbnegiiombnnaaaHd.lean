/- What stands first in a half; tagged halves; numbers of halves; tags. -/
import Derived.Test.YtbnegiiombnnaaaClo
import Derived.Deep.RegionHeld3
namespace Go.Proofs.Ytbnegiiombnnaaa
open Go.RowKit

/-- How many halves a row of so many bytes has. -/
def many (n : Nat) : Nat := (51 + n) / 48
theorem halvesFor_any (w : World) (n : Nat) (hn : n ≤ 4611686018427387904) : Calls Try.prog 25 #[.int .i64 n] w fun e w' => e = .returned (.int .i64 (many n : Nat)) ∧ w = w' := by
  have e1 : IntKind.i64.wrap (4 + (n : Int)) = 4 + (n : Int) := by simp [IntKind.wrap, IntKind.signed, IntKind.bits]; omega
  have e2 : IntKind.i64.wrap (4 + (n : Int) + 48) = 4 + (n : Int) + 48 := by simp [IntKind.wrap, IntKind.signed, IntKind.bits]; omega
  have e3 : IntKind.i64.wrap (4 + (n : Int) + 48 - 1) = 4 + (n : Int) + 48 - 1 := by simp [IntKind.wrap, IntKind.signed, IntKind.bits]; omega
  go_enter Try.func25, Try.ntmps25
  go_wp2_with fail
  go_ret
  refine ⟨congrArg (fun z => Ending.returned (Value.int .i64 z)) (?_ : (4 + (n : Int) + 48 - 1) / 48 = ((many n : Nat) : Int)), rfl⟩
  unfold many
  omega
def needN (n : Int) : Nat := if n < 0 ∨ 32768 < n then 0 else (many n.toNat + 1) / 2
theorem need_any (w : World) (n : Int) : Calls Try.prog 10 #[.int .i64 n] w fun e w' => e = .returned (.int .i64 (needN n : Nat)) ∧ w = w' := by
  by_cases h0 : n < 0
  · have : needN n = 0 := by simp [needN, h0]
    rw [this]
    go_enter Try.func10, Try.ntmps10
    go_wp2_with fail
    go_ret
    exact ⟨rfl, rfl⟩
  by_cases h1 : 32768 < n
  · have : needN n = 0 := by simp [needN, h1]
    rw [this]
    go_enter Try.func10, Try.ntmps10
    go_wp2_with fail
    go_ret
    exact ⟨rfl, rfl⟩
  obtain ⟨k, rfl⟩ := Int.eq_ofNat_of_zero_le (Int.not_lt.1 h0)
  have hn : needN (k : Int) = (many k + 1) / 2 := by simp [needN]; omega
  rw [hn]
  have hm : many k ≤ 1000 := by unfold many; omega
  have HM := Lib.hid (halvesFor_any w k (by omega))
  generalize many k = m at *
  go_enter Try.func10, Try.ntmps10
  go_wp2_with fail
  (with_reducible refine HM.out.mono ?_)
  rintro e w1 ⟨rfl, rfl⟩
  go_wp2_with fail
  go_ret
  exact ⟨congrArg (fun z => Ending.returned (Value.int .i64 z)) (by omega : ((m : Int) + 1) / 2 = (((m + 1) / 2 : Nat) : Int)), rfl⟩

/-- May a tag be? -/
def mayT (c : Nat) (n : Int) : Bool := decide (1 ≤ c) && decide (c ≤ 4611686018427387904) && decide (0 ≤ n) && decide (n ≤ 2147483647)
theorem may_any (w : World) (c : Nat) (n : Int) : Calls Try.prog 8 #[.agg #[.int .u64 c, .int .i64 n]] w fun e w' => e = .returned (.bool (mayT c n)) ∧ Fr (fun _ => False) w w' := by
  go_enter Try.func8, Try.ntmps8
  go_wp2_with fail
  all_goals
    go_ret
    refine ⟨congrArg (fun b => Ending.returned (Value.bool b)) ?_, (Fr.refl _ _).alloc _⟩
    unfold mayT
    rw [Bool.eq_iff_iff]
    simp
    omega

/-- What stands where a half has its head. -/
structure Hd where
  c : Nat
  n : Nat
  p : Nat
  m : Nat
def hdOf (h : List UInt8) : Hd := ⟨numOf (h.take 8), numOf ((h.drop 8).take 4), numOf ((h.drop 12).take 2), numOf ((h.drop 14).take 2)⟩
abbrev hdV (x : Hd) : Value := .agg #[.int .u64 (x.c : Nat), .int .i64 (x.n : Nat), .int .i64 (x.p : Nat), .int .i64 (x.m : Nat)]

theorem infoHead : (Try.prog.info? 64).map (·.size) = some 4 := by kernel_rfl
theorem Blk.rd {w : World} {b : Nat} {t : TypeId} {l : List UInt8} (h : Blk w b t (cellsB l).toArray) (hl : 0 < l.length) : Rd w (some ⟨b, 0, none⟩) l.length l := by
  refine ⟨rfl, fun _ => ⟨_, rfl, fun j c hc => ?_⟩⟩
  have e : (⟨b, 0, none⟩ : Addr).add j = ⟨b, j, none⟩ := by rw [Addr.add_mid]; simp
  rw [e, h.cell]
  simp [cellsB, hc]
theorem BoxR.keep {F : Nat → Prop} {w w' : World} {g : Nat} {A : Option Addr} {n c : Nat} {l : List UInt8} (h : BoxR w g A n c l) (f : Fr F w w') (hg : ¬ F g) (hA : ∀ ad, A = some ad → ¬ F ad.block) : BoxR w' g A n c l := by
  obtain ⟨h1, h2, h3, h4, h5⟩ := h
  exact ⟨h1.keep f hg, h2.keep f hA, h3, h4, h5⟩

theorem take_is {w : World} {g : Nat} {A : Option Addr} {n c : Nat} {l l' : List UInt8} {N : Nat} (h : BoxR w g A n c l) (s : Nat) (hs : s ≤ 8) (hn : s ≤ n) (e : numOf (l.take s) = N ∧ l.drop s = l') :
    Calls Try.prog 41 #[.int .i64 s, .pointer (some ⟨g, 0, none⟩)] w fun e w' => e = .returned (.int .u64 (N : Nat)) ∧ (∃ A', BoxR w' g A' (n - s) (c - s) l' ∧ ∀ ad, A' = some ad → ∃ ad0, A = some ad0 ∧ ad.block = ad0.block) ∧ Fr (fun k => k = g) w w' := by
  have := take_any h s hs hn
  rw [e.1, e.2] at this
  exact this
set_option maxRecDepth 100000 in
theorem headOf_any (w : World) (h : List UInt8) (hl : h.length = 64) : Calls Try.prog 32 #[av h] w fun e w' => e = .returned (hdV (hdOf h)) ∧ Fr (fun _ => False) w w' := by
  obtain ⟨N0, N1, N2, N3, l1, l2, l3, l4, q0, q1, q2, q3, b1, b2, b3, hE⟩ : ∃ N0 N1 N2 N3 l1 l2 l3 l4, (numOf (h.take 8) = N0 ∧ h.drop 8 = l1) ∧ (numOf (l1.take 4) = N1 ∧ l1.drop 4 = l2) ∧ (numOf (l2.take 2) = N2 ∧ l2.drop 2 = l3) ∧ (numOf (l3.take 2) = N3 ∧ l3.drop 2 = l4) ∧
      N1 < 4294967296 ∧ N2 < 65536 ∧ N3 < 65536 ∧ hdOf h = ⟨N0, N1, N2, N3⟩ := by
    refine ⟨_, _, _, _, _, _, _, _, ⟨rfl, rfl⟩, ⟨rfl, rfl⟩, ⟨rfl, rfl⟩, ⟨rfl, rfl⟩, ?_, ?_, ?_, by simp [hdOf]⟩
    · have := numOf_lt ((h.drop 8).take 4); simpa [hl] using this
    · have := numOf_lt (((h.drop 8).drop 4).take 2); simpa [hl] using this
    · have := numOf_lt ((((h.drop 8).drop 4).drop 2).take 2); simpa [hl] using this
  rw [hE]
  have Q := Lib.hid (And.intro q0 (And.intro q1 (And.intro q2 q3)))
  clear q0 q1 q2 q3 hE
  go_enter Try.func32, Try.ntmps32
  go_wp2_with (first
    | (refine wpList_put rfl 61 _ rfl _ rfl ?_))
  have HR : Hid (Rd ((w.alloc (.cells (cellsB h).toArray 61)).alloc (.cells #[.int .u64 0, .int .i64 0, .int .i64 0, .int .i64 0] 64)) (some ⟨w.heap.size, 0, none⟩) 64 h) := Lib.hid (by
    have h1 := ((Blk.new w 61 (cellsB h).toArray).keep (F := fun _ => False) ((Fr.refl _ _).alloc (.cells #[.int .u64 0, .int .i64 0, .int .i64 0, .int .i64 0] 64)) (fun q => q)).rd (by omega)
    rw [hl] at h1
    exact h1)
  have HK : Hid (Blk ((w.alloc (.cells (cellsB h).toArray 61)).alloc (.cells #[.int .u64 0, .int .i64 0, .int .i64 0, .int .i64 0] 64)) (w.heap.size + 1) 64 #[.int .u64 0, .int .i64 0, .int .i64 0, .int .i64 0]) := Lib.hid (by
    have h1 := Blk.new (w.alloc (.cells (cellsB h).toArray 61)) 64 #[.int .u64 0, .int .i64 0, .int .i64 0, .int .i64 0]
    simpa using h1)
  have HF : Hid (Fr (fun _ => False) w ((w.alloc (.cells (cellsB h).toArray 61)).alloc (.cells #[.int .u64 0, .int .i64 0, .int .i64 0, .int .i64 0] 64))) := Lib.hid (((Fr.refl _ w).alloc _).alloc _)
  have HS : Hid (((w.alloc (.cells (cellsB h).toArray 61)).alloc (.cells #[.int .u64 0, .int .i64 0, .int .i64 0, .int .i64 0] 64)).heap.size = w.heap.size + 2) := Lib.hid (by simp)
  generalize (w.alloc (.cells (cellsB h).toArray 61)).alloc (.cells #[.int .u64 0, .int .i64 0, .int .i64 0, .int .i64 0] 64) = W at *
  refine (taker_any _ _ _ _).mono ?_
  rintro e w1 ⟨rfl, rfl⟩
  have hne : w.heap.size ≠ W.heap.size := by have := HS.out; omega
  have HB := Lib.hid (show BoxR (W.alloc (.cells #[.slice (some ⟨w.heap.size, 0, none⟩) 64 64] 25)) W.heap.size (some ⟨w.heap.size, 0, none⟩) 64 64 h from
    ⟨Blk.new W _ _, HR.out.keep (F := fun _ => False) ((Fr.refl _ W).alloc _) (fun _ _ q => q), Nat.le_refl _, (fun e => by cases e), fun ad e => by injection e with e; rw [← e]; exact hne⟩)
  go_wp2_with fail
  refine (take_is HB.out 8 (by omega) (by omega) Q.out.1).mono ?_
  rintro e w1 ⟨rfl, ⟨A1, hb1, ha1⟩, hf1⟩
  have H1 := Lib.hid (And.intro hb1 (And.intro ha1 hf1))
  clear hb1 ha1 hf1
  go_wp2_with fail
  refine (take_is H1.out.1 4 (by omega) (by omega) Q.out.2.1).mono ?_
  rintro e w2 ⟨rfl, ⟨A2, hb2, ha2⟩, hf2⟩
  have H2 := Lib.hid (And.intro hb2 (And.intro ha2 hf2))
  clear hb2 ha2 hf2
  go_wp2_with fail
  refine (take_is H2.out.1 2 (by omega) (by omega) Q.out.2.2.1).mono ?_
  rintro e w3 ⟨rfl, ⟨A3, hb3, ha3⟩, hf3⟩
  have H3 := Lib.hid (And.intro hb3 (And.intro ha3 hf3))
  clear hb3 ha3 hf3
  go_wp2_with fail
  refine (take_is H3.out.1 2 (by omega) (by omega) Q.out.2.2.2).mono ?_
  rintro e w4 ⟨rfl, ⟨A4, hb4, ha4⟩, hf4⟩
  have hfr : Fr (fun k => k = W.heap.size) (W.alloc (.cells #[.slice (some ⟨w.heap.size, 0, none⟩) 64 64] 25)) w4 := ((H1.out.2.2.trans H2.out.2.2 (fun _ _ q => q)).trans H3.out.2.2 (fun _ _ q => q)).trans hf4 (fun _ _ q => q)
  have hk4 := (HK.out.keep (F := fun _ => False) ((Fr.refl _ W).alloc (.cells #[.slice (some ⟨w.heap.size, 0, none⟩) 64 64] 25)) (fun q => q)).keep hfr (by have := HS.out; omega)
  have c0 := hk4.cell 0
  have c1 := hk4.cell 1
  have c2 := hk4.cell 2
  have c3 := hk4.cell 3
  have f0 := hk4.frozen 0
  have f1 := hk4.frozen 1
  have f2 := hk4.frozen 2
  have f3 := hk4.frozen 3
  simp at c0 c1 c2 c3
  have HX := Lib.hid (And.intro hk4 hfr)
  clear hk4 hfr hb4 ha4 hf4 H1 H2 H3 HB HR
  go_wp2_with fail
  refine bodyPost_ret (results_cell_row rfl _ _ (w.heap.size + 1) 64 #[.int .u64 (N0 : Nat), .int .i64 (N1 : Nat), .int .i64 (N2 : Nat), .int .i64 (N3 : Nat)] (0, 0) _ rfl ?_ Try.underlying64 rfl infoHead) rfl ?_
  · have h1 := (((HX.out.1.set_ 0 (.int .u64 (N0 : Nat))).set_ 1 (.int .i64 (N1 : Nat))).set_ 2 (.int .i64 (N2 : Nat))).set_ 3 (.int .i64 (N3 : Nat))
    exact h1
  · have h0 := HF.out.size
    exact ⟨rfl, ((((((HF.out.alloc _).trans HX.out.2 (fun i hi q => by omega)).setCell (p := ⟨w.heap.size + 1, 0, none⟩) (.inr (Nat.le_succ _)) _).setCell (p := ⟨w.heap.size + 1, 1, none⟩) (.inr (Nat.le_succ _)) _).setCell (p := ⟨w.heap.size + 1, 2, none⟩) (.inr (Nat.le_succ _)) _).setCell (p := ⟨w.heap.size + 1, 3, none⟩) (.inr (Nat.le_succ _)) _)⟩

/-- A tagged half. -/
def tagB (x : Hd) (p : List UInt8) : List UInt8 := be x.c 8 ++ (be x.n 4 ++ (be x.p 2 ++ (be x.m 2 ++ p)))
theorem tagB_len (x : Hd) {p : List UInt8} (hp : p.length = 48) : (tagB x p).length = 64 := by simp [tagB, be_len, hp]
theorem patch_app (a b m : List UInt8) : patch (a ++ b) a.length m = a ++ (m ++ b.drop m.length) := by
  unfold patch
  rw [List.take_left' rfl, ← List.drop_drop, List.drop_left' rfl]
theorem nought_drop (n k : Nat) : (nought n).drop k = nought (n - k) := by simp [nought]
theorem tagB_eq (x : Hd) {p : List UInt8} (hp : p.length = 48) : patch (patch (patch (patch (patch (nought 64) 0 (be x.c 8)) 8 (be x.n 4)) 12 (be x.p 2)) 14 (be x.m 2)) 16 p = tagB x p := by
  have h0 : patch (nought 64) 0 (be x.c 8) = be x.c 8 ++ nought 56 := by
    have := patch_app [] (nought 64) (be x.c 8)
    simpa [be_len, nought_drop] using this
  have h1 : patch (be x.c 8 ++ nought 56) 8 (be x.n 4) = (be x.c 8 ++ be x.n 4) ++ nought 52 := by
    have := patch_app (be x.c 8) (nought 56) (be x.n 4)
    simpa [be_len, nought_drop] using this
  have h2 : patch ((be x.c 8 ++ be x.n 4) ++ nought 52) 12 (be x.p 2) = (be x.c 8 ++ be x.n 4 ++ be x.p 2) ++ nought 50 := by
    have := patch_app (be x.c 8 ++ be x.n 4) (nought 52) (be x.p 2)
    simpa [be_len, nought_drop] using this
  have h3 : patch ((be x.c 8 ++ be x.n 4 ++ be x.p 2) ++ nought 50) 14 (be x.m 2) = (be x.c 8 ++ be x.n 4 ++ be x.p 2 ++ be x.m 2) ++ nought 48 := by
    have := patch_app (be x.c 8 ++ be x.n 4 ++ be x.p 2) (nought 50) (be x.m 2)
    simpa [be_len, nought_drop] using this
  have h4 : patch ((be x.c 8 ++ be x.n 4 ++ be x.p 2 ++ be x.m 2) ++ nought 48) 16 p = (be x.c 8 ++ be x.n 4 ++ be x.p 2 ++ be x.m 2) ++ p := by
    have := patch_app (be x.c 8 ++ be x.n 4 ++ be x.p 2 ++ be x.m 2) (nought 48) p
    simpa [be_len, nought_drop, hp, nought] using this
  rw [h0, h1, h2, h3, h4]
  simp [tagB]

theorem alloc4 (w : World) (C0 C1 C2 C3 : Array Value) (t0 t1 t2 t3 : TypeId) : ∃ W, W = (((w.alloc (.cells C0 t0)).alloc (.cells C1 t1)).alloc (.cells C2 t2)).alloc (.cells C3 t3) ∧ Blk W w.heap.size t0 C0 ∧ Blk W (w.heap.size + 1) t1 C1 ∧ Blk W (w.heap.size + 1 + 1) t2 C2 ∧ Blk W (w.heap.size + 1 + 1 + 1) t3 C3 ∧ W.heap.size = w.heap.size + 4 ∧ Fr (fun _ => False) w W := by
  have k : ∀ {W : World} {g : Nat} {t : TypeId} {cs : Array Value} (o : Obj), Blk W g t cs → Blk (W.alloc o) g t cs := fun o h => h.keep (F := fun _ => False) ((Fr.refl _ _).alloc o) (fun q => q)
  have n : ∀ (W : World) (t : TypeId) (C : Array Value) (g : Nat), W.heap.size = g → Blk (W.alloc (.cells C t)) g t C := fun W t C g e => e ▸ Blk.new W t C
  refine ⟨_, rfl, k _ (k _ (k _ (n _ _ _ _ rfl))), k _ (k _ (n _ _ _ _ (by simp))), k _ (n _ _ _ _ (by simp)), n _ _ _ _ (by simp), by simp, ((((Fr.refl _ w).alloc _).alloc _).alloc _).alloc _⟩
theorem putter_is (w : World) (B c : Nat) (t : TypeId) (l : List UInt8) (h : Blk w B t (cellsB l).toArray) (hl : c = l.length) :
    Calls Try.prog 35 #[.slice (some ⟨B, 0, none⟩) c c] w fun e w' => e = .returned (.func (.func 39) #[] #[.pointer (some ⟨w.heap.size, 0, none⟩)]) ∧ BoxB w' w.heap.size B t 0 c c l ∧ Fr (fun _ => False) w w' := by
  refine (putter_any w (some ⟨B, 0, none⟩) c c).mono ?_
  rintro e w' ⟨rfl, rfl⟩
  have := h.lt
  exact ⟨rfl, ⟨Blk.new w _ _, h.keep (F := fun _ => False) ((Fr.refl _ _).alloc _) (fun q => q), by omega, by omega, Nat.le_refl _⟩, (Fr.refl _ _).alloc _⟩

set_option maxRecDepth 100000 in
theorem tagged_any (w : World) (x : Hd) (p : List UInt8) (hp : p.length = 48) (h0 : x.c ≤ 18446744073709551615) (h1 : x.n ≤ 9223372036854775807) (h2 : x.p ≤ 9223372036854775807) (h3 : x.m ≤ 9223372036854775807) :
    Calls Try.prog 24 #[hdV x, av p] w fun e w' => e = .returned (av (tagB x p)) ∧ Fr (fun _ => False) w w' := by
  have HE := Lib.hid (tagB_eq x hp)
  obtain ⟨c, n, q, m⟩ := x
  simp only at h0 h1 h2 h3
  go_enter Try.func24, Try.ntmps24
  go_wp2_with (first
    | (refine wpList_zero rfl 61 rfl zeroHalf ?_)
    | (refine wpList_put rfl 59 _ rfl _ rfl ?_)
    | (refine wpList_put rfl 64 _ rfl _ rfl ?_))
  obtain ⟨W, hW, k0, k1, k2, k3, hsz, hfr⟩ := alloc4 w #[.int .u64 (c : Nat), .int .i64 (n : Nat), .int .i64 (q : Nat), .int .i64 (m : Nat)] (cellsB p).toArray (cellsB (nought 64)).toArray (cellsB (nought 64)).toArray 64 59 61 61
  rw [← hW]
  have HK := Lib.hid (And.intro k0 (And.intro k1 (And.intro k2 (And.intro k3 (And.intro hsz hfr)))))
  clear hW k0 k1 k2 k3 hsz hfr
  refine (putter_is W _ 64 _ _ HK.out.2.2.2.1 (by rw [nought_len])).mono ?_
  rintro e w1 ⟨rfl, hb1, hf1⟩
  have j0 := HK.out.1.keep hf1 (fun q => q)
  have e0 := j0.cell 0
  simp at e0
  have H1 := Lib.hid (And.intro hb1 (And.intro hf1 j0))
  clear hb1 hf1 j0
  go_wp2_with fail
  refine (put_any H1.out.1 c 8 (by omega) (by omega) (by omega)).mono ?_
  rintro e w2 ⟨rfl, hb2, hf2⟩
  clear e0
  have hne : ¬ (w.heap.size = W.heap.size ∨ w.heap.size = w.heap.size + 1 + 1 + 1) := by have := HK.out.2.2.2.2.1; omega
  have j0 := H1.out.2.2.keep hf2 hne
  have e0 := j0.cell 1
  simp at e0
  have H2 := Lib.hid (And.intro hb2 (And.intro hf2 j0))
  clear hb2 hf2 j0
  go_wp2_with fail
  refine (put_any H2.out.1 n 4 (by omega) (by omega) (by omega)).mono ?_
  rintro e w3 ⟨rfl, hb3, hf3⟩
  clear e0
  have j0 := H2.out.2.2.keep hf3 hne
  have e0 := j0.cell 2
  simp at e0
  have H3 := Lib.hid (And.intro hb3 (And.intro hf3 j0))
  clear hb3 hf3 j0
  go_wp2_with fail
  refine (put_any H3.out.1 q 2 (by omega) (by omega) (by omega)).mono ?_
  rintro e w4 ⟨rfl, hb4, hf4⟩
  clear e0
  have j0 := H3.out.2.2.keep hf4 hne
  have e0 := j0.cell 3
  simp at e0
  have H4 := Lib.hid (And.intro hb4 (And.intro hf4 j0))
  clear hb4 hf4 j0
  go_wp2_with fail
  refine (put_any H4.out.1 m 2 (by omega) (by omega) (by omega)).mono ?_
  rintro e w5 ⟨rfl, hb5, hf5⟩
  clear e0
  have hfw : Fr (fun k => k = W.heap.size ∨ k = w.heap.size + 1 + 1 + 1) W w5 := ((((H1.out.2.1.mono (fun _ _ q => q.elim)).trans H2.out.2.1 (fun _ _ q => q)).trans H3.out.2.1 (fun _ _ q => q)).trans H4.out.2.1 (fun _ _ q => q)).trans hf5 (fun _ _ q => q)
  have i1 := HK.out.2.1.keep hfw (by have := HK.out.2.2.2.2.1; omega)
  have i2 := HK.out.2.2.1.keep hfw (by have := HK.out.2.2.2.2.1; omega)
  have i3 := hb5.2.1
  have hlen : (patch (patch (patch (patch (nought 64) 0 (be c 8)) 8 (be n 4)) 12 (be q 2)) 14 (be m 2)).length = 64 := by
    have a1 : (patch (nought 64) 0 (be c 8)).length = 64 := by rw [patch_len] <;> simp [be_len, nought_len]
    have a2 : (patch (patch (nought 64) 0 (be c 8)) 8 (be n 4)).length = 64 := by rw [patch_len] <;> simp [be_len, a1]
    have a3 : (patch (patch (patch (nought 64) 0 (be c 8)) 8 (be n 4)) 12 (be q 2)).length = 64 := by rw [patch_len] <;> simp [be_len, a2]
    rw [patch_len] <;> simp [be_len, a3]
  have hcp : ∀ ty, (Builtin.copy_ #[25, 25] ty #[.slice (some ⟨w.heap.size + 1 + 1 + 1, 16, none⟩) 48 48, .slice (some ⟨w.heap.size + 1, 0, none⟩) 48 48]).run Try.prog w5.drew = .ok (goInt 48) (w5.drew.setCells (w.heap.size + 1 + 1 + 1) 16 (cellsB p)) := fun ty => by
    have h := run_copy_cells (P := Try.prog) w5.drew 25 25 ty 5 (w.heap.size + 1 + 1 + 1) 16 48 48 ⟨w.heap.size + 1, 0, none⟩ 48 48 (cellsB p) Try.underlying25 (by kernel_rfl) (by rw [cellsB_len, hp]; rfl)
      (fun j v hv => by rw [Addr.add_mid]; exact (i1.range 0 48) j v (by simpa [List.take_of_length_le (Nat.le_of_eq hp)] using hv)) (fun j hj => ((i3.there (o := 16) (n := 48) (by simp [cellsB_len, hlen])) j (by rw [cellsB_len, hp] at hj; exact hj)).1) (fun j hj => ((i3.there (o := 16) (n := 48) (by simp [cellsB_len, hlen])) j (by rw [cellsB_len, hp] at hj; exact hj)).2) (cellsB_one _)
    rw [cellsB_len, hp] at h
    exact h
  have H5 := Lib.hid (And.intro hfw (And.intro i2 (And.intro i3 hlen)))
  clear hfw i1 i2 i3 hlen hb5 hf5 H1 H2 H3 H4 hne
  go_wp2_with fail
  go_region
  clear hcp
  have t1 := Blk.over (w := w5.drew) (o := 16) (m := p) H5.out.2.2.1 (by rw [H5.out.2.2.2, hp]; omega)
  rw [HE.out] at t1
  have fB : Fr (fun k => k = w.heap.size + 1 + 1 + 1) w5.drew (w5.drew.setCells (w.heap.size + 1 + 1 + 1) 16 (cellsB p)) := Fr.setCells (F := fun k => k = w.heap.size + 1 + 1 + 1) (.inl rfl) (Fr.refl _ _)
  have t2 := Blk.keep (w := w5.drew) H5.out.2.1 fB (by omega)
  have t3 : Fr (fun _ => False) w (w5.drew.setCells (w.heap.size + 1 + 1 + 1) 16 (cellsB p)) := Fr.setCells (.inr (by omega)) ((HK.out.2.2.2.2.2.trans H5.out.1 (fun i hi q => by have := HK.out.2.2.2.2.1; omega)).drew)
  generalize w5.drew.setCells (w.heap.size + 1 + 1 + 1) 16 (cellsB p) = w6 at *
  have hlt := tagB_len (x := ⟨c, n, q, m⟩) hp
  have H6 := Lib.hid (And.intro t1 (And.intro t2 t3))
  clear t1 t2 t3 fB HE H5
  generalize hz : tagB ⟨c, n, q, m⟩ p = z at *
  have HZ := Lib.hid hz
  clear hz
  have HR : Hid (w6.rangeAt (w.heap.size + 1 + 1 + 1) 0 (cellsB z)) := Lib.hid (by
    have := H6.out.1.range 0 64
    rw [List.drop_zero, List.take_of_length_le (Nat.le_of_eq hlt)] at this
    exact this)
  go_wp2_with (first
    | (refine wpList_load_mid rfl 61 _ rfl (w.heap.size + 1 + 1 + 1) 0 rfl (cellsB z) _ HR.out Try.underlying61 rfl (by rw [infoHalf, cellsB_len, hlt]) ?_)
    | (refine wpList_store_mid rfl 61 _ _ rfl (w.heap.size + 1 + 1) 0 (cellsB z).toArray rfl rfl (H6.out.2.1.there (by simp [cellsB_len, nought_len, hlt])) (by rw [infoHalf]; simp [cellsB_len, hlt]) (all_oneCell_toArray (cellsB_one _)) ?_))
  refine bodyPost_ret (results_cell_row rfl _ _ (w.heap.size + 1 + 1) 61 (cellsB z).toArray (0, 0) _ rfl ?_ Try.underlying61 rfl (by rw [infoHalf]; simp [cellsB_len, hlt])) rfl ?_
  · have := H6.out.2.1.over (o := 0) (m := z) (by rw [nought_len, hlt]; omega)
    rw [patch_all (by rw [nought_len, hlt])] at this
    exact this
  · exact ⟨by rw [HZ.out], Fr.setCells (.inr (by omega)) H6.out.2.2⟩
end Go.Proofs.Ytbnegiiombnnaaa
