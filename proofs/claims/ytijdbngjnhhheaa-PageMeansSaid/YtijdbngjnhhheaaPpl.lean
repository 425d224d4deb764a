/- Acts in memory; couponlaw05.few, plays. -/
import Derived.Test.YtijdbngjnhhheaaPdo
namespace Go.Proofs.Ytijdbngjnhhheaa
open Go.RowKit

/-- An act as it lies in memory. -/
structure ActR where
  a : ActP
  A : Option Addr
  n : Nat
  c : Nat
structure ActK (w : World) (x : ActR) : Prop where
  n : x.n = x.a.b.length
  rd : Rd w x.A x.n x.a.b
  nc : x.n ≤ x.c
  cm : x.c ≤ maxLen
set_option maxRecDepth 100000 in
theorem ActK.new {w w' : World} {x : ActR} (h : ActK w x) (f : Fr (fun _ => False) w w') : ActK w' x := ⟨h.n, h.rd.keep f (fun _ _ q => q), h.nc, h.cm⟩
def cellsA (x : ActR) : List Value := [.int .i64 x.a.kd, .int .i64 x.a.sl, .int .i64 x.a.nx, .slice x.A x.n x.c]
def ActsAt (w : World) (b off : Nat) (xs : List ActR) : Prop := ∀ (i : Nat) (x : ActR), xs[i]? = some x → ActK w x ∧ ∀ w', Fr (fun _ => False) w w' → w'.rangeAt b (off + i * 4) (cellsA x)
set_option maxRecDepth 100000 in
theorem ActsAt.new {w w' : World} {b off : Nat} {xs : List ActR} (h : ActsAt w b off xs) (f : Fr (fun _ => False) w w') : ActsAt w' b off xs := fun i x hi => ⟨(h i x hi).1.new f, fun w'' g => (h i x hi).2 w'' (f.trans g (fun _ _ q => q))⟩
def ListV (w : World) (v : Value) (xs : List ActR) : Prop := ∃ A cap, v = .slice A xs.length cap ∧ xs.length ≤ maxLen ∧ (0 < xs.length → ∃ b off, A = some ⟨b, off, none⟩ ∧ ActsAt w b off xs)
set_option maxRecDepth 100000 in
theorem ListV.new {w w' : World} {v : Value} {xs : List ActR} (h : ListV w v xs) (f : Fr (fun _ => False) w w') : ListV w' v xs := by
  obtain ⟨A, cap, h1, h2, h3⟩ := h
  exact ⟨A, cap, h1, h2, fun h0 => by
    obtain ⟨b, off, h4, h5⟩ := h3 h0
    exact ⟨b, off, h4, h5.new f⟩⟩
set_option maxRecDepth 100000 in
theorem range_cells {w : World} {b o : Nat} {x : ActR} (h : w.rangeAt b o (cellsA x)) : w.cell? ⟨b, o, none⟩ = some (.int .i64 x.a.kd) ∧ w.cell? ⟨b, o + 1, none⟩ = some (.int .i64 x.a.sl) ∧ w.cell? ⟨b, o + 2, none⟩ = some (.int .i64 x.a.nx) ∧ w.cell? ⟨b, o + 3, none⟩ = some (.slice x.A x.n x.c) :=
  ⟨h 0 _ rfl, h 1 _ rfl, h 2 _ rfl, h 3 _ rfl⟩
def fewB (xs : List ActR) (m : Nat) : Bool := decide (∀ x ∈ xs, x.n ≤ 700) && decide (xs.length ≤ m)
def PD.play (x : PD) (xs : List ActR) : PD := xs.foldl (fun x a => x.step a.a) x
set_option maxRecDepth 100000 in
theorem play_ok {x : PD} (k : x.Ok) (xs : List ActR) : (x.play xs).Ok := by
  induction xs generalizing x with
  | nil => exact k
  | cons a xs ih => exact ih (step_ok k a.a)
set_option maxRecDepth 100000 in
theorem play_snoc {x : PD} {xs : List ActR} {i : Nat} {y : ActR} (h : xs[i]? = some y) : x.play (xs.take (i + 1)) = (x.play (xs.take i)).step y.a := by
  unfold PD.play
  rw [List.take_add_one, h]
  simp
set_option maxRecDepth 100000 in
theorem infoAct : (Try.prog.info? 43).map (·.size) = some 4 := by kernel_rfl
section
variable {w : World} {v : Value} {xs : List ActR}
set_option maxRecDepth 100000 in
theorem few_any (h : ListV w v xs) (m : Nat) : Calls Try.prog 8 #[v, .int .i64 m] w fun e w' => e = .returned (.bool (fewB xs m)) ∧ Fr (fun _ => False) w w' := by
  obtain ⟨A, cap, rfl, hl, h2⟩ := h
  obtain ⟨n, hn⟩ : ∃ n, n = xs.length := ⟨_, rfl⟩
  rw [← hn] at hl h2 ⊢
  have hn9 : n ≤ 9223372036854775807 := by simp only [maxLen] at hl; omega
  obtain ⟨z, hz⟩ : ∃ z, z = fewB xs m := ⟨_, rfl⟩
  rw [← hz]
  have HZ := Lib.hid (And.intro hz (And.intro hn h2))
  clear hl h2 hz hn
  go_enter Try.func8, Try.ntmps8
  go_wp2_with fail
  go_loopw [5] (fun i wr => ∃ k : Nat, i = .int .i64 k ∧ k ≤ n ∧ Hid (∀ i x, i < k → xs[i]? = some x → x.n ≤ 700) ∧ w = wr) (fun i _ => n - (intOf i).toNat)
  case atStart => exact ⟨0, rfl, Nat.zero_le _, Lib.hid (fun i x hi => absurd hi (by omega)), rfl⟩
  case round =>
    obtain ⟨k, rfl, hk, HA, rfl⟩ := hrel
    by_cases hlt : k < n
    · by_cases hkm : k ≤ m
      · obtain ⟨b, off, rfl, hs⟩ := HZ.out.2.2 (by omega)
        obtain ⟨x, hx⟩ : ∃ x, xs[k]? = some x := ⟨_, List.getElem?_eq_getElem (by have := HZ.out.2.1; omega)⟩
        obtain ⟨hk1, hk2⟩ := hs k x hx
        have c3 := (range_cells (hk2 w (Fr.refl _ _))).2.2.2
        have hi0 : (0 : Int) ≤ (k : Int) := by omega
        have hi1 : (k : Int) < (n : Int) := by omega
        have hi2 : (k : Int) ≤ (m : Int) := by omega
        obtain ⟨np, hnp⟩ : ∃ np, np = x.n := ⟨_, rfl⟩
        rw [← hnp] at c3
        have HX := Lib.hid (And.intro hx hnp)
        clear hx hk1 hk2 hs hnp
        by_cases hp : np ≤ 700
        · have HA2 : Hid (∀ i x, i < k + 1 → xs[i]? = some x → x.n ≤ 700) := Lib.hid fun i y hi hy => by
            by_cases e : i = k
            · subst e
              rw [HX.out.1] at hy
              injection hy with hy
              subst hy
              rw [← HX.out.2]; exact hp
            · exact HA.out i y (by omega) hy
          have hpz : ¬ ((np : Int) > 700) := by omega
          clear HA
          go_wp2_with fail
          exact ⟨⟨k + 1, by go_num, by omega, HA2, trivial⟩, by simp [intOf]; omega⟩
        · have hzf : z = false := by
            rw [HZ.out.1]
            unfold fewB
            rw [Bool.and_eq_false_iff]
            refine .inl (decide_eq_false fun hh => hp ?_)
            rw [HX.out.2]; exact hh x (List.mem_of_getElem? HX.out.1)
          subst hzf
          have hpz : (np : Int) > 700 := by omega
          clear HA
          go_wp2_with fail
          go_ret
          exact ⟨rfl, Fr.refl _ _⟩
      · have hzf : z = false := by
          rw [HZ.out.1]
          unfold fewB
          rw [Bool.and_eq_false_iff]
          exact .inr (decide_eq_false (by have := HZ.out.2.1; omega))
        subst hzf
        have hi1 : (k : Int) < (n : Int) := by omega
        have hi2 : ¬ ((k : Int) ≤ (m : Int)) := by omega
        have hi3 : ¬ ((n : Int) ≤ (m : Int)) := by omega
        clear HA
        go_wp2_with fail
        go_ret
        exact ⟨rfl, Fr.refl _ _⟩
    · obtain rfl : n = k := by omega
      have hzz : z = decide (n ≤ m) := by
        rw [HZ.out.1]
        unfold fewB
        have h1 : decide (∀ x ∈ xs, x.n ≤ 700) = true := decide_eq_true fun x hx => by
          obtain ⟨i, hi⟩ := List.getElem?_of_mem hx
          exact HA.out i x (by have := (List.getElem?_eq_some_iff.1 hi).1; have := HZ.out.2.1; omega) hi
        rw [h1, Bool.true_and, ← HZ.out.2.1]
      subst hzz
      clear HA
      go_wp2_with fail
      go_ret
      exact ⟨rfl, Fr.refl _ _⟩
set_option maxRecDepth 100000 in
set_option maxHeartbeats 4000000 in
theorem plays_any {kd : Nat} (h : ListV w v xs) (hk : kd ≤ 4) (hf : ∀ x ∈ xs, x.n ≤ 700) : Calls Try.prog 10 #[.int .i64 kd, v] w fun e w' => e = .returned (.tuple #[av ((PD.mk kd 0 []).play xs).bytes, .bool true]) ∧ Fr (fun _ => False) w w' := by
  obtain ⟨A, cap, rfl, hl, h2⟩ := h
  obtain ⟨n, hn⟩ : ∃ n, n = xs.length := ⟨_, rfl⟩
  rw [← hn] at hl h2 ⊢
  have hn9 : n ≤ 9223372036854775807 := by simp only [maxLen] at hl; omega
  have ok0 : (PD.mk kd 0 []).Ok := ok_new hk
  have HZ := Lib.hid (And.intro hn (And.intro h2 (And.intro hf ok0)))
  have HP := Lib.hid (play_ok ok0 xs).len
  have hl0 := ok0.len
  have C1 := fun W => new_any (w := W) hk
  obtain ⟨L0, hL0⟩ : ∃ L, L = (PD.mk kd 0 []).bytes := ⟨_, rfl⟩
  obtain ⟨LE, hLE⟩ : ∃ L, L = ((PD.mk kd 0 []).play xs).bytes := ⟨_, rfl⟩
  rw [← hL0] at C1 hl0
  rw [← hLE] at HP ⊢
  have HL := Lib.hid (And.intro hL0 hLE)
  have HC := Lib.hid C1
  have hx0 := Blk.new w 26 (cellsB (nought 512)).toArray
  have fx0 := (Fr.refl (fun _ => False) w).alloc (.cells (cellsB (nought 512)).toArray 26)
  have H0 := Lib.hid (And.intro hx0 fx0)
  have hup := Try.underlying26
  clear hl h2 hn hf ok0 C1 hL0 hLE hx0 fx0
  go_enter Try.func10, Try.ntmps10
  go_wp2_with (refine wpList_zero rfl 26 rfl zeroPage ?_)
  refine (HC.out _).mono ?_
  rintro e w1 ⟨rfl, f1⟩
  have HQ : Hid (Blk w1 w.heap.size 26 (cellsB (nought 512)).toArray ∧ Fr (fun _ => False) w w1) := Lib.hid ⟨H0.out.1.keep f1 (fun q => q), H0.out.2.trans f1 (fun _ _ q => q)⟩
  clear f1 H0
  go_upto_region 2 with (first | (refine wpList_zero rfl 26 rfl zeroPage ?_) | (refine wpList_store_mid rfl 26 _ _ rfl w1.heap.size 0 (cellsB L0).toArray rfl rfl (there_new w1 hl0) (by rw [infoPage]; simp [cellsB_len, hl0]) (all_oneCell_toArray (cellsB_one _)) ?_))
  obtain ⟨w2, hwx⟩ : ∃ X, X = (w1.alloc (.cells (cellsB (nought 512)).toArray 26)).setCells w1.heap.size 0 (cellsB L0) := ⟨_, rfl⟩
  have hbx := box_page hl0 w2 hwx
  have hg1 : w.heap.size < w1.heap.size := HQ.out.1.lt
  obtain ⟨g, hg⟩ : ∃ g, g = w1.heap.size := ⟨_, rfl⟩
  rw [← hg] at hbx hg1
  have HB := Lib.hid hbx.1
  have HF : Hid (Fr (fun _ => False) w w2) := Lib.hid (HQ.out.2.trans hbx.2 (fun _ _ q => q))
  have HR : Hid (Blk w2 w.heap.size 26 (cellsB (nought 512)).toArray) := Lib.hid (HQ.out.1.keep hbx.2 (fun q => q))
  rw [← hwx, ← hg]
  clear hwx hbx HQ HC hg
  go_wp2_with fail
  go_loopw [8, 9] (fun s8 i wr => ∃ k : Nat, s8 = .bool true ∧ i = .int .i64 k ∧ k ≤ n ∧ Hid (Blk wr g 26 (cellsB ((PD.mk kd 0 []).play (xs.take k)).bytes).toArray) ∧ Hid (Fr (fun q => q = g) w2 wr)) (fun _ i _ => n - (intOf i).toNat)
  case atStart => exact ⟨0, rfl, rfl, Nat.zero_le _, Lib.hid (by have := HB.out; rw [HL.out.1] at this; exact this), Lib.hid (Fr.refl _ _)⟩
  case round =>
    obtain ⟨k, rfl, rfl, hk2, HBk, HFk⟩ := hrel
    clear HB
    obtain ⟨P, hP⟩ : ∃ P, P = (PD.mk kd 0 []).play (xs.take k) := ⟨_, rfl⟩
    have hPok : P.Ok := by rw [hP]; exact play_ok HZ.out.2.2.2 _
    have hPl := hPok.len
    rw [← hP] at HBk
    have hfw : Fr (fun _ => False) w wr := HF.out.trans HFk.out (fun q hq e => by omega)
    have HFw := Lib.hid hfw
    by_cases hlt : k < n
    · obtain ⟨b, off, rfl, hs⟩ := HZ.out.2.1 (by omega)
      obtain ⟨x, hx⟩ : ∃ x, xs[k]? = some x := ⟨_, List.getElem?_eq_getElem (by have := HZ.out.1; omega)⟩
      have hak := ((hs.new hfw) k x hx).1
      have har := (hs k x hx).2
      have CD : ∀ W, Fr (fun _ => False) wr W → Calls Try.prog 21 #[av P.bytes, .agg (cellsA x).toArray] W _ := fun W f => do_any hPok hak.n (hak.new f).rd (HZ.out.2.2.1 x (List.mem_of_getElem? hx)) hak.nc
      have hP2 : (PD.mk kd 0 []).play (xs.take (k + 1)) = P.step x.a := by rw [hP]; exact play_snoc hx
      have hok2 := step_ok hPok x.a
      have hl2 := hok2.len
      have HD := Lib.hid CD
      have HPP : Hid (wr.rangeAt g 0 (cellsB P.bytes)) := Lib.hid (page_range HBk.out hPl)
      have HPA : Hid (∀ W, Fr (fun q => q = g) wr W → W.rangeAt b (off + k * 4) (cellsA x)) := Lib.hid fun W f => har W (HFw.out.trans f (fun i hi e => by omega))
      have hinP : (Try.prog.info? 26).map (·.size) = some (cellsB P.bytes).length := by rw [infoPage, cellsB_len, hPl]
      have hupa := Try.underlying43
      have hina : (Try.prog.info? 43).map (·.size) = some (cellsA x).length := infoAct
      have HE := Lib.hid (And.intro hP2 hl2)
      have hi0 : (0 : Int) ≤ (k : Int) := by omega
      have hi1 : (k : Int) < (n : Int) := by omega
      generalize hPb : P.bytes = LP at *
      generalize hSb : (P.step x.a).bytes = LS at *
      clear hP hPok hfw hs hx hak har CD hP2 hok2 hl2 hPb
      go_upto_region 6 with (fail)
      refine wp_region_held_drew (S := fun w' => Fr (fun q => q = g) wr w') (by kernel_rfl) ((Fr.refl _ _).drew) (fun hS0 => ?_)
      refine anyH_take 1 28 (.slice (some ⟨b, off, none⟩) n cap) rfl rfl (by kernel_rfl) (by kernel_rfl) (by kernel_rfl) (fun _ _ _ h => h) (.inl ⟨by rfl, fun w'' hS => by go_simp⟩) hS0 ?_
      (simp only [List.setIfInBounds_toArray, List.set_cons_zero, List.set_cons_succ])
      refine anyH_take 2 29 (.int .i64 (k : Int)) rfl rfl (by kernel_rfl) (by kernel_rfl) (by kernel_rfl) (fun _ _ _ h => h) (.inl ⟨by rfl, fun w'' hS => by go_simp⟩) hS0 ?_
      (simp only [List.setIfInBounds_toArray, List.set_cons_zero, List.set_cons_succ])
      refine anyH_take 3 30 (.pointer (some ⟨b, off + k * 4, none⟩)) rfl rfl (by kernel_rfl) (by kernel_rfl) (by kernel_rfl) (fun _ _ _ h => h) (.inl ⟨by rfl, fun w'' hS => by go_simp⟩) hS0 ?_
      (simp only [List.setIfInBounds_toArray, List.set_cons_zero, List.set_cons_succ])
      refine anyH_take 4 31 (.agg (cellsA x).toArray) rfl rfl (by kernel_rfl) (by kernel_rfl) (by kernel_rfl) (fun _ _ _ h => h) (yieldsIf_load_mid (by rfl) _ _ rfl _ _ rfl _ _ (fun w' f => HPA.out w' f) hupa rfl hina) hS0 ?_
      (simp only [List.setIfInBounds_toArray, List.set_cons_zero, List.set_cons_succ])
      refine anyH_value 0 27 (av LP) wr.drew (by kernel_rfl) rfl rfl (by rfl) (run_load_mid 26 _ rfl g 0 rfl (cellsB LP) _ HPP.out hup rfl hinP) hS0 ?_
      (simp only [List.setIfInBounds_toArray, List.set_cons_zero, List.set_cons_succ])
      refine anyH_enter 5 32 (by kernel_rfl) rfl rfl (by rfl) (by go_simp) ((HD.out _ ((Fr.refl (fun _ => False) _).drew)).mono ?_)
      rintro e wl ⟨rfl, -, fwl⟩
      have fvl : Fr (fun _ => False) wr wl := ((Fr.refl (fun _ => False) wr).drew).trans fwl (fun _ _ q => q)
      have swl : Fr (fun q => q = g) wr wl := fvl.mono (fun _ _ q => q.elim)
      refine ⟨_, rfl, swl, ?_⟩
      (simp only [List.setIfInBounds_toArray, List.set_cons_zero, List.set_cons_succ])
      refine anyH_take 6 26 (.tuple #[av LS, .bool true]) rfl rfl (by kernel_rfl) (by kernel_rfl) (by kernel_rfl) (fun _ _ _ h => h) (.inl ⟨by rfl, fun w'' hS => by go_simp⟩) swl ?_
      (simp only [List.setIfInBounds_toArray, List.set_cons_zero, List.set_cons_succ])
      refine anyH_take 7 33 (av LS) rfl rfl (by kernel_rfl) (by kernel_rfl) (by kernel_rfl) (fun _ _ _ h => h) (.inl ⟨by rfl, fun w'' hS => by go_simp⟩) swl ?_
      (simp only [List.setIfInBounds_toArray, List.set_cons_zero, List.set_cons_succ])
      refine anyH_take 8 34 (.bool true) rfl rfl (by kernel_rfl) (by kernel_rfl) (by kernel_rfl) (fun _ _ _ h => h) (.inl ⟨by rfl, fun w'' hS => by go_simp⟩) swl ?_
      (simp only [List.setIfInBounds_toArray, List.set_cons_zero, List.set_cons_succ])
      have hb8 := HBk.out.keep fvl (fun q => q)
      refine anyH_skip 9 _ (by kernel_rfl) rfl rfl (by rfl) (run_store_mid 26 _ _ rfl g 0 (cellsB LS).toArray rfl rfl (hb8.there (by simp [cellsB_len, hPl, HE.out.2])) (by rw [infoPage]; simp [cellsB_len, HE.out.2]) (all_oneCell_toArray (cellsB_one _))) (Fr.setCells (F := fun q => q = g) (.inl rfl) swl) ?_
      have hbo := hb8.over (o := 0) (m := LS) (by rw [hPl, HE.out.2]; omega)
      rw [patch_all (by rw [hPl, HE.out.2])] at hbo
      have hS2 := Fr.setCells (F := fun q => q = g) (b := g) (vs := cellsB LS) (o := 0) (.inl rfl) swl
      refine anyH_take 10 8 (.bool true) rfl rfl (by kernel_rfl) (by kernel_rfl) (by kernel_rfl) (fun _ _ _ h => h) (.inl ⟨by rfl, fun w'' hS => by go_simp⟩) hS2 ?_
      (simp only [List.setIfInBounds_toArray, List.set_cons_zero, List.set_cons_succ])
      refine wpAnyH_done (by kernel_rfl) ?_ _
      have HB2 : Hid (Blk (wl.setCells g 0 (cellsB LS)) g 26 (cellsB ((PD.mk kd 0 []).play (xs.take (k + 1))).bytes).toArray) := Lib.hid (by rw [HE.out.1, hSb]; exact hbo)
      have HF2 : Hid (Fr (fun q => q = g) w2 (wl.setCells g 0 (cellsB LS))) := Lib.hid (HFk.out.trans hS2 (fun _ _ q => q))
      clear hbo hS2 hb8 swl fwl hS0 fvl HE hSb
      go_wp2_with fail
      exact ⟨⟨k + 1, rfl, by go_num, by omega, HB2, HF2⟩, by simp [intOf]; omega⟩
    · obtain rfl : n = k := by omega
      have hPE : P.bytes = LE := by
        rw [hP, HL.out.2, List.take_of_length_le (by have := HZ.out.1; omega)]
      rw [hPE] at HBk hPl
      have q0 := Lib.hid (page_range HBk.out hPl)
      have hin : (Try.prog.info? 26).map (·.size) = some (cellsB LE).length := by rw [infoPage, cellsB_len, hPl]
      have hrk := HR.out.keep HFk.out (by omega)
      have hbo := hrk.over (o := 0) (m := LE) (by rw [nought_len]; omega)
      rw [patch_all (by rw [nought_len]; omega)] at hbo
      have hfz := Fr.setCells (F := fun _ => False) (b := w.heap.size) (vs := cellsB LE) (o := 0) (.inr (Nat.le_refl _)) hfw
      have HQ := Lib.hid (And.intro hrk (And.intro hbo hfz))
      clear hP hPok hPE hfw hrk hbo hfz hlt hk2 HBk
      go_wp2_with (first | (refine wpList_load_want (by rfl) 26 _ rfl g 0 rfl (cellsB LE) _ q0.out hup rfl hin ?_) | (refine wpList_store_mid rfl 26 _ _ rfl w.heap.size 0 (cellsB LE).toArray rfl rfl (HQ.out.1.there (by simp [cellsB_len, nought_len, hPl])) (by rw [infoPage]; simp [cellsB_len, hPl]) (all_oneCell_toArray (cellsB_one _)) ?_))
      refine bodyPost_ret (results_page2 rfl _ _ w.heap.size LE (.bool true) rfl rfl hPl HQ.out.2.1) rfl ⟨rfl, HQ.out.2.2⟩
end
end Go.Proofs.Ytijdbngjnhhheaa
