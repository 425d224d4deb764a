/- wal: the head of a sector. -/
import Derived.Test.YtjdbgojnpnlblaaGreatVhd
import Derived.Test.YtjdbgojnpnlblaaGreatW9
namespace Go.Proofs.YtjdbgojnpnlblaaGreat
open Go.RowKit

def cntOf (x : List UInt8) : Nat := numOf ((x.drop 4).take 8)
def sinOf (x : List UInt8) : Nat := numOf ((x.drop 12).take 8)
def isHd (x : List UInt8) : Bool := decide (1 ≤ sinOf x) && (decide (sinOf x ≤ cntOf x) && (decide (cntOf x ≤ 4611686018427387904) && decide (tornOf x (nought 128) = hdS (cntOf x) (sinOf x))))
def hdVal (x : List UInt8) : Value := if isHd x then hV (cntOf x) (sinOf x) else hV 0 0
theorem zc76 : Value.agg Tryz.zeroCells45 = av (nought 128) := by kernel_rfl
theorem infoHd2 : (Tryz.prog.info? 78).map (·.size) = some 2 := by kernel_rfl
set_option maxRecDepth 100000 in
theorem results_hd2 {fn : Func} {p q : Tmp} (h : fn.results = #[.cell p 78, .tmp q]) (tmps : Array Value) (w : World) (b : Nat) (c s : Nat) (v : Value) (hp : tmps.getD p undef = .pointer (some ⟨b, 0, none⟩)) (hq : tmps.getD q undef = v)
    (hb : Blk w b 78 #[.int .u64 (c : Nat), .int .u64 (s : Nat)]) : (results fn tmps).run Tryz.prog w = .ok (.tuple #[hV c s, v]) w := by
  have e := run_loadVar_row (P := Tryz.prog) w b 78 78 #[.int .u64 (c : Nat), .int .u64 (s : Nat)] (0, 0) _ hb Tryz.underlying78 rfl infoHd2
  have hp' : tmps[p]?.getD undef = .pointer (some ⟨b, 0, none⟩) := by simpa using hp
  have hq' : tmps[q]?.getD undef = v := by simpa using hq
  simp [results, h, hp', hq', asAddr, e]
theorem run_load_flat2 {o : Oper} {a : Act} {w : World} {b c s : Nat} (q : Blk w b 78 #[.int .u64 (c : Nat), .int .u64 (s : Nat)]) (ho : o.op = .load 78 (.tmp 7)) (hx : a.eval (.tmp 7) = .pointer (some ⟨b, 0, none⟩)) : (execOp a.eval o).run Tryz.prog w = .ok (.value (hV c s)) w := by
  have e := run_loadVar_row (P := Tryz.prog) w b 78 78 #[.int .u64 (c : Nat), .int .u64 (s : Nat)] (0, 0) _ q Tryz.underlying78 rfl infoHd2
  unfold execOp
  simp only [ho, hx, Instr.loadAt, Instr.sureAddr, Sem.run_bind, Sem.run_pure, Result.andThen_ok, e]
/-- A piece taken off, by its number. -/
theorem wtake_is {w : World} {g : Nat} {A : Option Addr} {n c : Nat} {l l1 l' : List UInt8} (h : BoxR w g A n c l) (s : Nat) (hn : s ≤ n) (e : l.take s = l1 ∧ l.drop s = l') :
    Calls Tryz.prog 97 #[.int .i64 s, .pointer (some ⟨g, 0, none⟩)] w fun e w' => e = .returned (.slice A s s) ∧ Rd w' A s l1 ∧ (∃ A', BoxR w' g A' (n - s) (c - s) l' ∧ ∀ ad, A' = some ad → ∃ ad0, A = some ad0 ∧ ad.block = ad0.block) ∧ Fr (fun k => k = g) w w' := by
  have := wtake_any h s hn
  rw [e.1, e.2] at this
  exact this
theorem numberOf_is {w : World} {A : Option Addr} {n c N : Nat} {l : List UInt8} (hr : Rd w A n l) (hn : n ≤ 8) (e : numOf l = N) :
    Calls Tryz.prog 71 #[.slice A n c] w fun e w' => e = .returned (.int .u64 (N : Nat)) ∧ w = w' := e ▸ numberOf_any hr hn
theorem drop_drop' (x : List UInt8) (a b : Nat) : (x.drop a).drop b = x.drop (a + b) := by rw [List.drop_drop]
theorem num8_le (l : List UInt8) (h : l.length ≤ 8) : numOf l ≤ 18446744073709551615 := by
  have h1 := numOf_lt l
  have h2 : 256 ^ l.length ≤ 256 ^ 8 := Nat.pow_le_pow_right (by omega) h
  have h3 : (256 : Nat) ^ 8 = 18446744073709551616 := by decide
  omega

set_option maxRecDepth 100000 in
set_option maxHeartbeats 2000000 in
theorem whd_any (w : World) (x : List UInt8) (hx : x.length = 128) : Calls Tryz.prog 37 #[av x] w fun e w' => e = .returned (.tuple #[hdVal x, .bool (isHd x)]) ∧ Fr (fun _ => False) w w' := by
  obtain ⟨c, s, l0, l1, l2, l3, l4, q0, q1, q2, q3, q4, hE⟩ : ∃ c s l0 l1 l2 l3 l4, x.drop 4 = l0 ∧ (l0.take 8 = l1 ∧ l0.drop 8 = l2) ∧ (l2.take 8 = l3 ∧ l2.drop 8 = l4) ∧ numOf l1 = c ∧ numOf l3 = s ∧ (cntOf x = c ∧ sinOf x = s ∧ c ≤ 18446744073709551615 ∧ s ≤ 18446744073709551615) := by
    refine ⟨_, _, _, _, _, _, _, rfl, ⟨rfl, rfl⟩, ⟨rfl, rfl⟩, rfl, rfl, rfl, ?_, num8_le _ (by simp; omega), num8_le _ (by simp; omega)⟩
    unfold sinOf
    rw [drop_drop']
  have HX := Lib.hid hx
  have Q := Lib.hid (And.intro q0 (And.intro q1 (And.intro q2 (And.intro q3 (And.intro q4 hE)))))
  have HLE := Lib.hid hE.2.2
  clear hx q0 q1 q2 q3 q4 hE
  go_enter Tryz.func37, Tryz.ntmps37
  obtain ⟨W, hW, k0, k1, hsz, hfr⟩ := alloc2 w (cellsB x).toArray #[.int .u64 0, .int .u64 0] 45 78
  have HK := Lib.hid (And.intro k0 (And.intro k1 (And.intro hsz hfr)))
  clear k0 k1 hsz hfr
  go_wp2_with (first
    | (refine wpList_put rfl 45 _ rfl _ rfl ?_))
  rw [← hW]
  clear hW
  have HR : Hid (Rd W (some ⟨w.heap.size, 4, none⟩) 124 l0) := Lib.hid (by
    have h1 := HK.out.1.rd (by rw [HX.out]; omega)
    rw [HX.out] at h1
    have h2 := h1.drop (k := 4) (cap := 128) (by omega) (by omega)
    rw [Q.out.1] at h2
    simpa [Addr.add] using h2)
  refine (wtaker_any _ _ _ _).mono ?_
  rintro e w1 ⟨rfl, rfl⟩
  have hne : w.heap.size ≠ W.heap.size := by have := HK.out.2.2.1; omega
  have HB := Lib.hid (show BoxR (W.alloc (.cells #[.slice (some ⟨w.heap.size, 4, none⟩) 124 124] 68)) W.heap.size (some ⟨w.heap.size, 4, none⟩) 124 124 l0 from
    ⟨Blk.new W _ _, HR.out.keep (F := fun _ => False) ((Fr.refl _ W).alloc _) (fun _ _ q => q), Nat.le_refl _, (fun e => by cases e), fun ad e => by injection e with e; rw [← e]; exact hne⟩)
  go_wp2_with fail
  refine (wtake_is HB.out 8 (by omega) Q.out.2.1).mono ?_
  rintro e w2 ⟨rfl, hr2, ⟨A1, hb1, ha1⟩, hf1⟩
  have H1 := Lib.hid (And.intro hb1 (And.intro ha1 hf1))
  have HR2 := Lib.hid hr2
  clear hb1 ha1 hf1 hr2
  go_wp2_with fail
  refine (numberOf_is HR2.out (by omega) Q.out.2.2.2.1).mono ?_
  rintro e w2' ⟨rfl, rfl⟩
  go_wp2_with fail
  refine (wtake_is H1.out.1 8 (by omega) Q.out.2.2.1).mono ?_
  rintro e w3 ⟨rfl, hr3, ⟨A2, hb2, ha2⟩, hf2⟩
  have H2 := Lib.hid hf2
  have HR3 := Lib.hid hr3
  clear hb2 ha2 hf2 hr3
  go_wp2_with fail
  refine (numberOf_is HR3.out (by omega) Q.out.2.2.2.2.1).mono ?_
  rintro e w3' ⟨rfl, rfl⟩
  have HF3 : Hid (Fr (fun k => k = W.heap.size) W w3) := Lib.hid ((((Fr.refl (fun k => k = W.heap.size) W).alloc _).trans H1.out.2.2 (fun _ _ q => q)).trans H2.out (fun _ _ q => q))
  clear HB H1 H2 HR2 HR3 HR hne
  go_wp2_with fail
  have hb2 := (((HK.out.2.1.keep HF3.out (by have := HK.out.2.2.1; omega))).keep ((Fr.refl (fun _ => False) w3).alloc (.cells #[.int .u64 (c : Nat), .int .u64 (s : Nat)] 78)) (fun q => q))
  have hb1 := (((HK.out.1.keep HF3.out (by have := HK.out.2.2.1; omega))).keep ((Fr.refl (fun _ => False) w3).alloc (.cells #[.int .u64 (c : Nat), .int .u64 (s : Nat)] 78)) (fun q => q))
  have hb7 := Blk.new w3 78 #[.int .u64 (c : Nat), .int .u64 (s : Nat)]
  have hf6 : Fr (fun _ => False) w (w3.alloc (.cells #[.int .u64 (c : Nat), .int .u64 (s : Nat)] 78)) := (HK.out.2.2.2.trans HF3.out (fun i hi q => by have := HK.out.2.2.1; omega)).alloc _
  have hz3 : w.heap.size + 2 ≤ w3.heap.size := by have := HK.out.2.2.1; have := HF3.out.size; omega
  generalize w3.alloc (.cells #[.int .u64 (c : Nat), .int .u64 (s : Nat)] 78) = w6 at *
  generalize w3.heap.size = g7 at *
  have HB6 := Lib.hid (And.intro hb1 (And.intro hb2 hb7))
  have HF6 := Lib.hid hf6
  have HC : Hid (∀ w', Fr (fun _ => False) w6 w' → w'.rangeAt w.heap.size 0 (cellsB x) ∧ Blk w' g7 78 #[.int .u64 (c : Nat), .int .u64 (s : Nat)]) := Lib.hid fun w' f =>
    ⟨by have q := Blk.range (HB6.out.1.keep f (fun q => q)) 0 128; rwa [List.drop_zero, List.take_of_length_le (Nat.le_of_eq HX.out)] at q, HB6.out.2.2.keep f (fun q => q)⟩
  have hE := Q.out.2.2.2.2.2
  clear hb1 hb2 hb7 hf6 HK HF3
  by_cases hA : s < 1
  · have hA' : (s : Int) < 1 := by omega
    have HV : Hid (isHd x = false) := Lib.hid (by unfold isHd; rw [hE.2.1]; simp; omega)
    clear hE
    refine wp_region_held_drew (S := fun w' => Fr (fun _ => False) w6 w') (by kernel_rfl) ((Fr.refl _ _).drew) (fun hS0 => ?_)
    refine anyH_take 0 19 (.int .u64 (s : Nat)) rfl rfl (by kernel_rfl) (by kernel_rfl) (by kernel_rfl) (fun _ _ _ h => h) (.inl ⟨by rfl, fun w'' hS => by go_simp⟩) hS0 ?_
    (simp only [List.setIfInBounds_toArray, List.set_cons_zero, List.set_cons_succ])
    refine anyH_take 1 20 (.bool true) rfl rfl (by kernel_rfl) (by kernel_rfl) (by kernel_rfl) (fun _ _ _ h => h) (.inl ⟨by rfl, fun w'' hS => by go_simp⟩) hS0 ?_
    (simp only [List.setIfInBounds_toArray, List.set_cons_zero, List.set_cons_succ])
    refine anyH_take 2 21 (.bool true) rfl rfl (by kernel_rfl) (by kernel_rfl) (by kernel_rfl) (fun _ _ _ h => h) (.inl ⟨by rfl, fun w'' hS => by go_simp⟩) hS0 ?_
    (simp only [List.setIfInBounds_toArray, List.set_cons_zero, List.set_cons_succ])
    refine anyH_take 3 22 undef rfl rfl (by kernel_rfl) (by kernel_rfl) (by kernel_rfl) (fun _ _ _ h => h) (.inr ⟨by rfl, rfl⟩) hS0 ?_
    (simp only [List.setIfInBounds_toArray, List.set_cons_zero, List.set_cons_succ])
    refine anyH_take 4 23 undef rfl rfl (by kernel_rfl) (by kernel_rfl) (by kernel_rfl) (fun _ _ _ h => h) (.inr ⟨by rfl, rfl⟩) hS0 ?_
    (simp only [List.setIfInBounds_toArray, List.set_cons_zero, List.set_cons_succ])
    refine anyH_take 5 24 undef rfl rfl (by kernel_rfl) (by kernel_rfl) (by kernel_rfl) (fun _ _ _ h => h) (.inr ⟨by rfl, rfl⟩) hS0 ?_
    (simp only [List.setIfInBounds_toArray, List.set_cons_zero, List.set_cons_succ])
    refine anyH_take 6 25 (.bool true) rfl rfl (by kernel_rfl) (by kernel_rfl) (by kernel_rfl) (fun _ _ _ h => h) (.inl ⟨by rfl, fun w'' hS => by go_simp⟩) hS0 ?_
    (simp only [List.setIfInBounds_toArray, List.set_cons_zero, List.set_cons_succ])
    refine anyH_take 7 26 (.bool true) rfl rfl (by kernel_rfl) (by kernel_rfl) (by kernel_rfl) (fun _ _ _ h => h) (.inl ⟨by rfl, fun w'' hS => by go_simp⟩) hS0 ?_
    (simp only [List.setIfInBounds_toArray, List.set_cons_zero, List.set_cons_succ])
    refine anyH_take 8 27 undef rfl rfl (by kernel_rfl) (by kernel_rfl) (by kernel_rfl) (fun _ _ _ h => h) (.inr ⟨by rfl, rfl⟩) hS0 ?_
    (simp only [List.setIfInBounds_toArray, List.set_cons_zero, List.set_cons_succ])
    refine anyH_take 9 28 undef rfl rfl (by kernel_rfl) (by kernel_rfl) (by kernel_rfl) (fun _ _ _ h => h) (.inr ⟨by rfl, rfl⟩) hS0 ?_
    (simp only [List.setIfInBounds_toArray, List.set_cons_zero, List.set_cons_succ])
    refine anyH_take 10 29 (.bool true) rfl rfl (by kernel_rfl) (by kernel_rfl) (by kernel_rfl) (fun _ _ _ h => h) (.inl ⟨by rfl, fun w'' hS => by go_simp⟩) hS0 ?_
    (simp only [List.setIfInBounds_toArray, List.set_cons_zero, List.set_cons_succ])
    refine anyH_take 11 30 (.bool true) rfl rfl (by kernel_rfl) (by kernel_rfl) (by kernel_rfl) (fun _ _ _ h => h) (.inl ⟨by rfl, fun w'' hS => by go_simp⟩) hS0 ?_
    (simp only [List.setIfInBounds_toArray, List.set_cons_zero, List.set_cons_succ])
    refine anyH_take 12 31 undef rfl rfl (by kernel_rfl) (by kernel_rfl) (by kernel_rfl) (fun _ _ _ h => h) (.inr ⟨by rfl, rfl⟩) hS0 ?_
    (simp only [List.setIfInBounds_toArray, List.set_cons_zero, List.set_cons_succ])
    refine anyH_take 13 32 undef rfl rfl (by kernel_rfl) (by kernel_rfl) (by kernel_rfl) (fun _ _ _ h => h) (.inr ⟨by rfl, rfl⟩) hS0 ?_
    (simp only [List.setIfInBounds_toArray, List.set_cons_zero, List.set_cons_succ])
    refine anyH_take 14 33 undef rfl rfl (by kernel_rfl) (by kernel_rfl) (by kernel_rfl) (fun _ _ _ h => h) (.inr ⟨by rfl, rfl⟩) hS0 ?_
    (simp only [List.setIfInBounds_toArray, List.set_cons_zero, List.set_cons_succ])
    refine anyH_take 15 34 undef rfl rfl (by kernel_rfl) (by kernel_rfl) (by kernel_rfl) (fun _ _ _ h => h) (.inr ⟨by rfl, rfl⟩) hS0 ?_
    (simp only [List.setIfInBounds_toArray, List.set_cons_zero, List.set_cons_succ])
    refine anyH_take 16 35 undef rfl rfl (by kernel_rfl) (by kernel_rfl) (by kernel_rfl) (fun _ _ _ h => h) (.inr ⟨by rfl, rfl⟩) hS0 ?_
    (simp only [List.setIfInBounds_toArray, List.set_cons_zero, List.set_cons_succ])
    refine anyH_take 17 36 undef rfl rfl (by kernel_rfl) (by kernel_rfl) (by kernel_rfl) (fun _ _ _ h => h) (.inr ⟨by rfl, rfl⟩) hS0 ?_
    (simp only [List.setIfInBounds_toArray, List.set_cons_zero, List.set_cons_succ])
    refine anyH_take 18 37 (.bool true) rfl rfl (by kernel_rfl) (by kernel_rfl) (by kernel_rfl) (fun _ _ _ h => h) (.inl ⟨by rfl, fun w'' hS => by go_simp⟩) hS0 ?_
    (simp only [List.setIfInBounds_toArray, List.set_cons_zero, List.set_cons_succ])
    refine wpAnyH_done (by kernel_rfl) ?_ _
    have g := HF6.out.trans hS0 (fun _ _ q => q)
    have b2 := HB6.out.2.1.keep hS0 (fun q => q)
    have b7 := HB6.out.2.2.keep hS0 (fun q => q)
    have H9 := Lib.hid (And.intro g (And.intro b2 b7))
    have c70 := b7.cell 0
    have c71 := b7.cell 1
    have e20 := b2.cell 0
    have e21 := b2.cell 1
    have f20 := b2.frozen 0
    have f21 := b2.frozen 1
    simp at c70 c71 e20 e21
    try simp at f20 f21
    clear g b2 b7 hS0
    go_wp2_with fail
    refine bodyPost_ret (results_hd2 rfl _ _ (w.heap.size + 1) 0 0 (.bool false) rfl rfl ?_) rfl ?_
    · exact (H9.out.2.1.set_ 0 (.int .u64 (0 : Nat))).set_ 1 (.int .u64 (0 : Nat))
    · exact ⟨by simp only [hdVal, HV.out, Bool.false_eq_true, if_false], (H9.out.1.setCell (p := ⟨w.heap.size + 1, 0, none⟩) (.inr (Nat.le_succ _)) _).setCell (p := ⟨w.heap.size + 1, 1, none⟩) (.inr (Nat.le_succ _)) _⟩
  by_cases hB : c < s
  · have hA' : ¬ (s : Int) < 1 := by omega
    have hB' : (c : Int) < (s : Int) := by omega
    have HV : Hid (isHd x = false) := Lib.hid (by unfold isHd; rw [hE.2.1, hE.1]; simp; omega)
    clear hE
    refine wp_region_held_drew (S := fun w' => Fr (fun _ => False) w6 w') (by kernel_rfl) ((Fr.refl _ _).drew) (fun hS0 => ?_)
    refine anyH_take 0 19 (.int .u64 (s : Nat)) rfl rfl (by kernel_rfl) (by kernel_rfl) (by kernel_rfl) (fun _ _ _ h => h) (.inl ⟨by rfl, fun w'' hS => by go_simp⟩) hS0 ?_
    (simp only [List.setIfInBounds_toArray, List.set_cons_zero, List.set_cons_succ])
    refine anyH_take 1 20 (.bool false) rfl rfl (by kernel_rfl) (by kernel_rfl) (by kernel_rfl) (fun _ _ _ h => h) (.inl ⟨by rfl, fun w'' hS => by go_simp⟩) hS0 ?_
    (simp only [List.setIfInBounds_toArray, List.set_cons_zero, List.set_cons_succ])
    refine anyH_take 2 21 (.bool false) rfl rfl (by kernel_rfl) (by kernel_rfl) (by kernel_rfl) (fun _ _ _ h => h) (.inl ⟨by rfl, fun w'' hS => by go_simp⟩) hS0 ?_
    (simp only [List.setIfInBounds_toArray, List.set_cons_zero, List.set_cons_succ])
    refine anyH_take 3 22 (.int .u64 (s : Nat)) rfl rfl (by kernel_rfl) (by kernel_rfl) (by kernel_rfl) (fun _ _ _ h => h) (.inl ⟨by rfl, fun w'' hS => by go_simp⟩) hS0 ?_
    (simp only [List.setIfInBounds_toArray, List.set_cons_zero, List.set_cons_succ])
    refine anyH_take 4 23 (.int .u64 (c : Nat)) rfl rfl (by kernel_rfl) (by kernel_rfl) (by kernel_rfl) (fun _ _ _ h => h) (.inl ⟨by rfl, fun w'' hS => by go_simp⟩) hS0 ?_
    (simp only [List.setIfInBounds_toArray, List.set_cons_zero, List.set_cons_succ])
    refine anyH_take 5 24 (.bool true) rfl rfl (by kernel_rfl) (by kernel_rfl) (by kernel_rfl) (fun _ _ _ h => h) (.inl ⟨by rfl, fun w'' hS => by go_simp⟩) hS0 ?_
    (simp only [List.setIfInBounds_toArray, List.set_cons_zero, List.set_cons_succ])
    refine anyH_take 6 25 (.bool true) rfl rfl (by kernel_rfl) (by kernel_rfl) (by kernel_rfl) (fun _ _ _ h => h) (.inl ⟨by rfl, fun w'' hS => by go_simp⟩) hS0 ?_
    (simp only [List.setIfInBounds_toArray, List.set_cons_zero, List.set_cons_succ])
    refine anyH_take 7 26 (.bool true) rfl rfl (by kernel_rfl) (by kernel_rfl) (by kernel_rfl) (fun _ _ _ h => h) (.inl ⟨by rfl, fun w'' hS => by go_simp⟩) hS0 ?_
    (simp only [List.setIfInBounds_toArray, List.set_cons_zero, List.set_cons_succ])
    refine anyH_take 8 27 undef rfl rfl (by kernel_rfl) (by kernel_rfl) (by kernel_rfl) (fun _ _ _ h => h) (.inr ⟨by rfl, rfl⟩) hS0 ?_
    (simp only [List.setIfInBounds_toArray, List.set_cons_zero, List.set_cons_succ])
    refine anyH_take 9 28 undef rfl rfl (by kernel_rfl) (by kernel_rfl) (by kernel_rfl) (fun _ _ _ h => h) (.inr ⟨by rfl, rfl⟩) hS0 ?_
    (simp only [List.setIfInBounds_toArray, List.set_cons_zero, List.set_cons_succ])
    refine anyH_take 10 29 (.bool true) rfl rfl (by kernel_rfl) (by kernel_rfl) (by kernel_rfl) (fun _ _ _ h => h) (.inl ⟨by rfl, fun w'' hS => by go_simp⟩) hS0 ?_
    (simp only [List.setIfInBounds_toArray, List.set_cons_zero, List.set_cons_succ])
    refine anyH_take 11 30 (.bool true) rfl rfl (by kernel_rfl) (by kernel_rfl) (by kernel_rfl) (fun _ _ _ h => h) (.inl ⟨by rfl, fun w'' hS => by go_simp⟩) hS0 ?_
    (simp only [List.setIfInBounds_toArray, List.set_cons_zero, List.set_cons_succ])
    refine anyH_take 12 31 undef rfl rfl (by kernel_rfl) (by kernel_rfl) (by kernel_rfl) (fun _ _ _ h => h) (.inr ⟨by rfl, rfl⟩) hS0 ?_
    (simp only [List.setIfInBounds_toArray, List.set_cons_zero, List.set_cons_succ])
    refine anyH_take 13 32 undef rfl rfl (by kernel_rfl) (by kernel_rfl) (by kernel_rfl) (fun _ _ _ h => h) (.inr ⟨by rfl, rfl⟩) hS0 ?_
    (simp only [List.setIfInBounds_toArray, List.set_cons_zero, List.set_cons_succ])
    refine anyH_take 14 33 undef rfl rfl (by kernel_rfl) (by kernel_rfl) (by kernel_rfl) (fun _ _ _ h => h) (.inr ⟨by rfl, rfl⟩) hS0 ?_
    (simp only [List.setIfInBounds_toArray, List.set_cons_zero, List.set_cons_succ])
    refine anyH_take 15 34 undef rfl rfl (by kernel_rfl) (by kernel_rfl) (by kernel_rfl) (fun _ _ _ h => h) (.inr ⟨by rfl, rfl⟩) hS0 ?_
    (simp only [List.setIfInBounds_toArray, List.set_cons_zero, List.set_cons_succ])
    refine anyH_take 16 35 undef rfl rfl (by kernel_rfl) (by kernel_rfl) (by kernel_rfl) (fun _ _ _ h => h) (.inr ⟨by rfl, rfl⟩) hS0 ?_
    (simp only [List.setIfInBounds_toArray, List.set_cons_zero, List.set_cons_succ])
    refine anyH_take 17 36 undef rfl rfl (by kernel_rfl) (by kernel_rfl) (by kernel_rfl) (fun _ _ _ h => h) (.inr ⟨by rfl, rfl⟩) hS0 ?_
    (simp only [List.setIfInBounds_toArray, List.set_cons_zero, List.set_cons_succ])
    refine anyH_take 18 37 (.bool true) rfl rfl (by kernel_rfl) (by kernel_rfl) (by kernel_rfl) (fun _ _ _ h => h) (.inl ⟨by rfl, fun w'' hS => by go_simp⟩) hS0 ?_
    (simp only [List.setIfInBounds_toArray, List.set_cons_zero, List.set_cons_succ])
    refine wpAnyH_done (by kernel_rfl) ?_ _
    have g := HF6.out.trans hS0 (fun _ _ q => q)
    have b2 := HB6.out.2.1.keep hS0 (fun q => q)
    have b7 := HB6.out.2.2.keep hS0 (fun q => q)
    have H9 := Lib.hid (And.intro g (And.intro b2 b7))
    have c70 := b7.cell 0
    have c71 := b7.cell 1
    have e20 := b2.cell 0
    have e21 := b2.cell 1
    have f20 := b2.frozen 0
    have f21 := b2.frozen 1
    simp at c70 c71 e20 e21
    try simp at f20 f21
    clear g b2 b7 hS0
    go_wp2_with fail
    refine bodyPost_ret (results_hd2 rfl _ _ (w.heap.size + 1) 0 0 (.bool false) rfl rfl ?_) rfl ?_
    · exact (H9.out.2.1.set_ 0 (.int .u64 (0 : Nat))).set_ 1 (.int .u64 (0 : Nat))
    · exact ⟨by simp only [hdVal, HV.out, Bool.false_eq_true, if_false], (H9.out.1.setCell (p := ⟨w.heap.size + 1, 0, none⟩) (.inr (Nat.le_succ _)) _).setCell (p := ⟨w.heap.size + 1, 1, none⟩) (.inr (Nat.le_succ _)) _⟩
  by_cases hC : 4611686018427387904 < c
  · have hA' : ¬ (s : Int) < 1 := by omega
    have hB' : ¬ (c : Int) < (s : Int) := by omega
    have hC' : 4611686018427387904 < (c : Int) := by omega
    have HV : Hid (isHd x = false) := Lib.hid (by unfold isHd; rw [hE.2.1, hE.1]; simp; omega)
    clear hE
    refine wp_region_held_drew (S := fun w' => Fr (fun _ => False) w6 w') (by kernel_rfl) ((Fr.refl _ _).drew) (fun hS0 => ?_)
    refine anyH_take 0 19 (.int .u64 (s : Nat)) rfl rfl (by kernel_rfl) (by kernel_rfl) (by kernel_rfl) (fun _ _ _ h => h) (.inl ⟨by rfl, fun w'' hS => by go_simp⟩) hS0 ?_
    (simp only [List.setIfInBounds_toArray, List.set_cons_zero, List.set_cons_succ])
    refine anyH_take 1 20 (.bool false) rfl rfl (by kernel_rfl) (by kernel_rfl) (by kernel_rfl) (fun _ _ _ h => h) (.inl ⟨by rfl, fun w'' hS => by go_simp⟩) hS0 ?_
    (simp only [List.setIfInBounds_toArray, List.set_cons_zero, List.set_cons_succ])
    refine anyH_take 2 21 (.bool false) rfl rfl (by kernel_rfl) (by kernel_rfl) (by kernel_rfl) (fun _ _ _ h => h) (.inl ⟨by rfl, fun w'' hS => by go_simp⟩) hS0 ?_
    (simp only [List.setIfInBounds_toArray, List.set_cons_zero, List.set_cons_succ])
    refine anyH_take 3 22 (.int .u64 (s : Nat)) rfl rfl (by kernel_rfl) (by kernel_rfl) (by kernel_rfl) (fun _ _ _ h => h) (.inl ⟨by rfl, fun w'' hS => by go_simp⟩) hS0 ?_
    (simp only [List.setIfInBounds_toArray, List.set_cons_zero, List.set_cons_succ])
    refine anyH_take 4 23 (.int .u64 (c : Nat)) rfl rfl (by kernel_rfl) (by kernel_rfl) (by kernel_rfl) (fun _ _ _ h => h) (.inl ⟨by rfl, fun w'' hS => by go_simp⟩) hS0 ?_
    (simp only [List.setIfInBounds_toArray, List.set_cons_zero, List.set_cons_succ])
    refine anyH_take 5 24 (.bool false) rfl rfl (by kernel_rfl) (by kernel_rfl) (by kernel_rfl) (fun _ _ _ h => h) (.inl ⟨by rfl, fun w'' hS => by go_simp⟩) hS0 ?_
    (simp only [List.setIfInBounds_toArray, List.set_cons_zero, List.set_cons_succ])
    refine anyH_take 6 25 (.bool false) rfl rfl (by kernel_rfl) (by kernel_rfl) (by kernel_rfl) (fun _ _ _ h => h) (.inl ⟨by rfl, fun w'' hS => by go_simp⟩) hS0 ?_
    (simp only [List.setIfInBounds_toArray, List.set_cons_zero, List.set_cons_succ])
    refine anyH_take 7 26 (.bool false) rfl rfl (by kernel_rfl) (by kernel_rfl) (by kernel_rfl) (fun _ _ _ h => h) (.inl ⟨by rfl, fun w'' hS => by go_simp⟩) hS0 ?_
    (simp only [List.setIfInBounds_toArray, List.set_cons_zero, List.set_cons_succ])
    refine anyH_take 8 27 (.int .u64 (c : Nat)) rfl rfl (by kernel_rfl) (by kernel_rfl) (by kernel_rfl) (fun _ _ _ h => h) (.inl ⟨by rfl, fun w'' hS => by go_simp⟩) hS0 ?_
    (simp only [List.setIfInBounds_toArray, List.set_cons_zero, List.set_cons_succ])
    refine anyH_take 9 28 (.bool true) rfl rfl (by kernel_rfl) (by kernel_rfl) (by kernel_rfl) (fun _ _ _ h => h) (.inl ⟨by rfl, fun w'' hS => by go_simp⟩) hS0 ?_
    (simp only [List.setIfInBounds_toArray, List.set_cons_zero, List.set_cons_succ])
    refine anyH_take 10 29 (.bool true) rfl rfl (by kernel_rfl) (by kernel_rfl) (by kernel_rfl) (fun _ _ _ h => h) (.inl ⟨by rfl, fun w'' hS => by go_simp⟩) hS0 ?_
    (simp only [List.setIfInBounds_toArray, List.set_cons_zero, List.set_cons_succ])
    refine anyH_take 11 30 (.bool true) rfl rfl (by kernel_rfl) (by kernel_rfl) (by kernel_rfl) (fun _ _ _ h => h) (.inl ⟨by rfl, fun w'' hS => by go_simp⟩) hS0 ?_
    (simp only [List.setIfInBounds_toArray, List.set_cons_zero, List.set_cons_succ])
    refine anyH_take 12 31 undef rfl rfl (by kernel_rfl) (by kernel_rfl) (by kernel_rfl) (fun _ _ _ h => h) (.inr ⟨by rfl, rfl⟩) hS0 ?_
    (simp only [List.setIfInBounds_toArray, List.set_cons_zero, List.set_cons_succ])
    refine anyH_take 13 32 undef rfl rfl (by kernel_rfl) (by kernel_rfl) (by kernel_rfl) (fun _ _ _ h => h) (.inr ⟨by rfl, rfl⟩) hS0 ?_
    (simp only [List.setIfInBounds_toArray, List.set_cons_zero, List.set_cons_succ])
    refine anyH_take 14 33 undef rfl rfl (by kernel_rfl) (by kernel_rfl) (by kernel_rfl) (fun _ _ _ h => h) (.inr ⟨by rfl, rfl⟩) hS0 ?_
    (simp only [List.setIfInBounds_toArray, List.set_cons_zero, List.set_cons_succ])
    refine anyH_take 15 34 undef rfl rfl (by kernel_rfl) (by kernel_rfl) (by kernel_rfl) (fun _ _ _ h => h) (.inr ⟨by rfl, rfl⟩) hS0 ?_
    (simp only [List.setIfInBounds_toArray, List.set_cons_zero, List.set_cons_succ])
    refine anyH_take 16 35 undef rfl rfl (by kernel_rfl) (by kernel_rfl) (by kernel_rfl) (fun _ _ _ h => h) (.inr ⟨by rfl, rfl⟩) hS0 ?_
    (simp only [List.setIfInBounds_toArray, List.set_cons_zero, List.set_cons_succ])
    refine anyH_take 17 36 undef rfl rfl (by kernel_rfl) (by kernel_rfl) (by kernel_rfl) (fun _ _ _ h => h) (.inr ⟨by rfl, rfl⟩) hS0 ?_
    (simp only [List.setIfInBounds_toArray, List.set_cons_zero, List.set_cons_succ])
    refine anyH_take 18 37 (.bool true) rfl rfl (by kernel_rfl) (by kernel_rfl) (by kernel_rfl) (fun _ _ _ h => h) (.inl ⟨by rfl, fun w'' hS => by go_simp⟩) hS0 ?_
    (simp only [List.setIfInBounds_toArray, List.set_cons_zero, List.set_cons_succ])
    refine wpAnyH_done (by kernel_rfl) ?_ _
    have g := HF6.out.trans hS0 (fun _ _ q => q)
    have b2 := HB6.out.2.1.keep hS0 (fun q => q)
    have b7 := HB6.out.2.2.keep hS0 (fun q => q)
    have H9 := Lib.hid (And.intro g (And.intro b2 b7))
    have c70 := b7.cell 0
    have c71 := b7.cell 1
    have e20 := b2.cell 0
    have e21 := b2.cell 1
    have f20 := b2.frozen 0
    have f21 := b2.frozen 1
    simp at c70 c71 e20 e21
    try simp at f20 f21
    clear g b2 b7 hS0
    go_wp2_with fail
    refine bodyPost_ret (results_hd2 rfl _ _ (w.heap.size + 1) 0 0 (.bool false) rfl rfl ?_) rfl ?_
    · exact (H9.out.2.1.set_ 0 (.int .u64 (0 : Nat))).set_ 1 (.int .u64 (0 : Nat))
    · exact ⟨by simp only [hdVal, HV.out, Bool.false_eq_true, if_false], (H9.out.1.setCell (p := ⟨w.heap.size + 1, 0, none⟩) (.inr (Nat.le_succ _)) _).setCell (p := ⟨w.heap.size + 1, 1, none⟩) (.inr (Nat.le_succ _)) _⟩
  have hA' : ¬ (s : Int) < 1 := by omega
  have hB' : ¬ (c : Int) < (s : Int) := by omega
  have hC' : ¬ 4611686018427387904 < (c : Int) := by omega
  have hu := Tryz.underlying45
  have hszs : (Tryz.prog.info? 45).map (·.size) = some (cellsB x).length := by rw [infoSector, cellsB_len, HX.out]
  obtain ⟨bb, hbb⟩ : ∃ bb : Bool, bb = !decide (tornOf x (nought 128) = hdS c s) := ⟨_, rfl⟩
  have hneq : ∀ w, (binOp .neq 45 (.agg (cellsB (tornOf x (nought 128))).toArray) (.agg (cellsB (hdS c s)).toArray)).run Tryz.prog w = .ok (.bool bb) w := fun w => by
    have := sec_neq (tornOf x (nought 128)) (hdS c s) (by simp [tornOf, HX.out, nought_len]) (hdS_len c s) w
    rw [hbb]
    exact this
  have HV : Hid (isHd x = !bb) := Lib.hid (by
    unfold isHd
    rw [hE.2.1, hE.1, hbb, decide_eq_true (by omega : 1 ≤ s), decide_eq_true (by omega : s ≤ c), decide_eq_true (by omega : c ≤ 4611686018427387904)]
    simp)
  have HCE := Lib.hid (And.intro hE.1 hE.2.1)
  clear hE hbb
  refine wp_region_held_drew (S := fun w' => Fr (fun _ => False) w6 w') (by kernel_rfl) ((Fr.refl _ _).drew) (fun hS0 => ?_)
  refine anyH_take 0 19 (.int .u64 (s : Nat)) rfl rfl (by kernel_rfl) (by kernel_rfl) (by kernel_rfl) (fun _ _ _ h => h) (.inl ⟨by rfl, fun w'' hS => by go_simp⟩) hS0 ?_
  (simp only [List.setIfInBounds_toArray, List.set_cons_zero, List.set_cons_succ])
  refine anyH_take 1 20 (.bool false) rfl rfl (by kernel_rfl) (by kernel_rfl) (by kernel_rfl) (fun _ _ _ h => h) (.inl ⟨by rfl, fun w'' hS => by go_simp⟩) hS0 ?_
  (simp only [List.setIfInBounds_toArray, List.set_cons_zero, List.set_cons_succ])
  refine anyH_take 2 21 (.bool false) rfl rfl (by kernel_rfl) (by kernel_rfl) (by kernel_rfl) (fun _ _ _ h => h) (.inl ⟨by rfl, fun w'' hS => by go_simp⟩) hS0 ?_
  (simp only [List.setIfInBounds_toArray, List.set_cons_zero, List.set_cons_succ])
  refine anyH_take 3 22 (.int .u64 (s : Nat)) rfl rfl (by kernel_rfl) (by kernel_rfl) (by kernel_rfl) (fun _ _ _ h => h) (.inl ⟨by rfl, fun w'' hS => by go_simp⟩) hS0 ?_
  (simp only [List.setIfInBounds_toArray, List.set_cons_zero, List.set_cons_succ])
  refine anyH_take 4 23 (.int .u64 (c : Nat)) rfl rfl (by kernel_rfl) (by kernel_rfl) (by kernel_rfl) (fun _ _ _ h => h) (.inl ⟨by rfl, fun w'' hS => by go_simp⟩) hS0 ?_
  (simp only [List.setIfInBounds_toArray, List.set_cons_zero, List.set_cons_succ])
  refine anyH_take 5 24 (.bool false) rfl rfl (by kernel_rfl) (by kernel_rfl) (by kernel_rfl) (fun _ _ _ h => h) (.inl ⟨by rfl, fun w'' hS => by go_simp⟩) hS0 ?_
  (simp only [List.setIfInBounds_toArray, List.set_cons_zero, List.set_cons_succ])
  refine anyH_take 6 25 (.bool false) rfl rfl (by kernel_rfl) (by kernel_rfl) (by kernel_rfl) (fun _ _ _ h => h) (.inl ⟨by rfl, fun w'' hS => by go_simp⟩) hS0 ?_
  (simp only [List.setIfInBounds_toArray, List.set_cons_zero, List.set_cons_succ])
  refine anyH_take 7 26 (.bool false) rfl rfl (by kernel_rfl) (by kernel_rfl) (by kernel_rfl) (fun _ _ _ h => h) (.inl ⟨by rfl, fun w'' hS => by go_simp⟩) hS0 ?_
  (simp only [List.setIfInBounds_toArray, List.set_cons_zero, List.set_cons_succ])
  refine anyH_take 8 27 (.int .u64 (c : Nat)) rfl rfl (by kernel_rfl) (by kernel_rfl) (by kernel_rfl) (fun _ _ _ h => h) (.inl ⟨by rfl, fun w'' hS => by go_simp⟩) hS0 ?_
  (simp only [List.setIfInBounds_toArray, List.set_cons_zero, List.set_cons_succ])
  refine anyH_take 9 28 (.bool false) rfl rfl (by kernel_rfl) (by kernel_rfl) (by kernel_rfl) (fun _ _ _ h => h) (.inl ⟨by rfl, fun w'' hS => by go_simp⟩) hS0 ?_
  (simp only [List.setIfInBounds_toArray, List.set_cons_zero, List.set_cons_succ])
  refine anyH_take 10 29 (.bool false) rfl rfl (by kernel_rfl) (by kernel_rfl) (by kernel_rfl) (fun _ _ _ h => h) (.inl ⟨by rfl, fun w'' hS => by go_simp⟩) hS0 ?_
  (simp only [List.setIfInBounds_toArray, List.set_cons_zero, List.set_cons_succ])
  refine anyH_take 11 30 (.bool false) rfl rfl (by kernel_rfl) (by kernel_rfl) (by kernel_rfl) (fun _ _ _ h => h) (.inl ⟨by rfl, fun w'' hS => by go_simp⟩) hS0 ?_
  (simp only [List.setIfInBounds_toArray, List.set_cons_zero, List.set_cons_succ])
  refine anyH_take 12 31 (.agg (cellsB x).toArray) rfl rfl (by kernel_rfl) (by kernel_rfl) (by kernel_rfl) (fun _ _ _ h => h) (yieldsIf_load_mid (by rfl) _ _ rfl _ _ rfl _ _ (fun w' f => (HC.out w' f).1) hu rfl hszs) hS0 ?_
  (simp only [List.setIfInBounds_toArray, List.set_cons_zero, List.set_cons_succ])
  refine anyH_take 13 32 (av (nought 128)) rfl rfl (by kernel_rfl) (by kernel_rfl) (by kernel_rfl) (fun _ _ _ h => h) (.inl ⟨by rfl, fun w'' hS => by have q := build_sector w''; go_simp; exact congrArg Value.cells zc76⟩) hS0 ?_
  (simp only [List.setIfInBounds_toArray, List.set_cons_zero, List.set_cons_succ])
  refine anyH_take 15 34 (hV c s) rfl rfl (by kernel_rfl) (by kernel_rfl) (by kernel_rfl) (fun _ _ _ h => h) (.inl ⟨by rfl, fun w'' hS => by have q := (HC.out w'' hS).2; exact run_load_flat2 q rfl rfl⟩) hS0 ?_
  (simp only [List.setIfInBounds_toArray, List.set_cons_zero, List.set_cons_succ])
  refine anyH_one 14 33 (av (tornOf x (nought 128))) (by kernel_rfl) (tame_call 33 rfl rfl (by rfl) (fun w'' hS => by go_simp) (fun w'' hS => ((torn_any w'' x (nought 128) HX.out (nought_len _)).mono fun e w3 he => ⟨he.1, hS.trans he.2 (fun _ _ q => q)⟩))) hS0 (fun w7 hS0 => ?_)
  (simp only [List.setIfInBounds_toArray, List.set_cons_zero, List.set_cons_succ])
  refine anyH_one 16 35 (av (hdS c s)) (by kernel_rfl) (tame_call 35 rfl rfl (by rfl) (fun w'' hS => by go_simp) (fun w'' hS => ((sector_any w'' c s HLE.out.1 HLE.out.2).mono fun e w3 he => ⟨he.1, hS.trans he.2 (fun _ _ q => q)⟩))) hS0 (fun w8 hS0 => ?_)
  (simp only [List.setIfInBounds_toArray, List.set_cons_zero, List.set_cons_succ])
  refine anyH_take 17 36 (.bool bb) rfl rfl (by kernel_rfl) (by kernel_rfl) (by kernel_rfl) (fun _ _ _ h => h) (.inl ⟨by rfl, fun w'' hS => by go_simp⟩) hS0 ?_
  (simp only [List.setIfInBounds_toArray, List.set_cons_zero, List.set_cons_succ])
  refine anyH_take 18 37 (.bool bb) rfl rfl (by kernel_rfl) (by kernel_rfl) (by kernel_rfl) (fun _ _ _ h => h) (.inl ⟨by rfl, fun w'' hS => by go_simp⟩) hS0 ?_
  (simp only [List.setIfInBounds_toArray, List.set_cons_zero, List.set_cons_succ])
  refine wpAnyH_done (by kernel_rfl) ?_ _
  clear hu hszs hneq HC
  cases bb with
  | true =>
    have g := HF6.out.trans hS0 (fun _ _ q => q)
    have b2 := HB6.out.2.1.keep hS0 (fun q => q)
    have b7 := HB6.out.2.2.keep hS0 (fun q => q)
    have H9 := Lib.hid (And.intro g (And.intro b2 b7))
    have c70 := b7.cell 0
    have c71 := b7.cell 1
    have e20 := b2.cell 0
    have e21 := b2.cell 1
    have f20 := b2.frozen 0
    have f21 := b2.frozen 1
    simp at c70 c71 e20 e21
    try simp at f20 f21
    clear g b2 b7 hS0
    go_wp2_with fail
    refine bodyPost_ret (results_hd2 rfl _ _ (w.heap.size + 1) 0 0 (.bool false) rfl rfl ?_) rfl ?_
    · exact (H9.out.2.1.set_ 0 (.int .u64 (0 : Nat))).set_ 1 (.int .u64 (0 : Nat))
    · exact ⟨by simp only [hdVal, HV.out, Bool.not_true, Bool.false_eq_true, if_false], (H9.out.1.setCell (p := ⟨w.heap.size + 1, 0, none⟩) (.inr (Nat.le_succ _)) _).setCell (p := ⟨w.heap.size + 1, 1, none⟩) (.inr (Nat.le_succ _)) _⟩
  | false =>
    have g := HF6.out.trans hS0 (fun _ _ q => q)
    have b2 := HB6.out.2.1.keep hS0 (fun q => q)
    have b7 := HB6.out.2.2.keep hS0 (fun q => q)
    have H9 := Lib.hid (And.intro g (And.intro b2 b7))
    have c70 := b7.cell 0
    have c71 := b7.cell 1
    have e20 := b2.cell 0
    have e21 := b2.cell 1
    have f20 := b2.frozen 0
    have f21 := b2.frozen 1
    simp at c70 c71 e20 e21
    try simp at f20 f21
    clear g b2 b7 hS0
    go_wp2_with fail
    refine bodyPost_ret (results_hd2 rfl _ _ (w.heap.size + 1) c s (.bool true) rfl rfl ?_) rfl ?_
    · exact (H9.out.2.1.set_ 0 (.int .u64 (c : Nat))).set_ 1 (.int .u64 (s : Nat))
    · exact ⟨by simp only [hdVal, HV.out, HCE.out.1, HCE.out.2, Bool.not_false, if_true], (H9.out.1.setCell (p := ⟨w.heap.size + 1, 0, none⟩) (.inr (Nat.le_succ _)) _).setCell (p := ⟨w.heap.size + 1, 1, none⟩) (.inr (Nat.le_succ _)) _⟩
end Go.Proofs.YtjdbgojnpnlblaaGreat
