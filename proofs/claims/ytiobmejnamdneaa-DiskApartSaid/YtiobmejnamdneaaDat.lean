/- A disk by its footprint alone: what each call does with it. couponlaw03.few, errno, begin. -/
import Derived.Test.YtiobmejnamdneaaDom
namespace Go.Proofs.Ytiobmejnamdneaa
open Go.RowKit Go.Maps

/-- A disk in memory, all of whose blocks lie in P, from B on. -/
def DAt (w : World) (B : Nat) (P : Nat → Prop) (g : Nat) (d : DS) : Prop := (∃ R M D val, DiskW w P g R M D val d) ∧ ∀ b, P b → B ≤ b ∧ b < w.heap.size
section
variable {w w' : World} {B g : Nat} {P G : Nat → Prop} {d : DS}
theorem DAt.keep (h : DAt w B P g d) (f : Fr G w w') (hG : ∀ i, P i → ¬ G i) : DAt w' B P g d := by
  obtain ⟨⟨R, M, D, val, h1⟩, h2⟩ := h
  exact ⟨⟨R, M, D, val, h1.keep f hG⟩, fun b hb => ⟨(h2 b hb).1, Nat.lt_of_lt_of_le (h2 b hb).2 f.size⟩⟩
theorem DAt.new (h : DAt w B P g d) (f : Fr (fun _ => False) w w') : DAt w' B P g d := h.keep f (fun _ _ q => q)
/-- Its footprint made small: just blocks that there are. -/
theorem DAt.of (h : ∃ R M D val, DiskW w' (fun b => P b ∨ w.heap.size ≤ b) g R M D val d) (hB : B ≤ w.heap.size) (hP : ∀ b, P b → B ≤ b ∧ b < w.heap.size) (hs : w.heap.size ≤ w'.heap.size) :
    ∃ P', DAt w' B P' g d ∧ ∀ b, P' b → P b ∨ w.heap.size ≤ b := by
  obtain ⟨R, M, D, val, h⟩ := h
  refine ⟨fun b => (P b ∨ w.heap.size ≤ b) ∧ b < w'.heap.size, ⟨⟨R, M, D, val, ?_⟩, fun b hb => ⟨?_, hb.2⟩⟩, fun b hb => hb.1⟩
  · exact { h with
      fg := ⟨h.fg, h.lt.1⟩
      fR := ⟨h.fR, h.lt.2.1⟩
      fM := ⟨h.fM, h.lt.2.2⟩
      own := fun i b hi hv hb => ⟨⟨(h.own i b hi hv hb).1, h.own_lt hi hv hb⟩, (h.own i b hi hv hb).2⟩ }
  · rcases hb.1 with q | q
    · exact (hP b q).1
    · omega
theorem DAt.of_same (h : ∃ R M D val, DiskW w' P g R M D val d) (hP : ∀ b, P b → B ≤ b ∧ b < w.heap.size) (hs : w.heap.size ≤ w'.heap.size) : DAt w' B P g d :=
  ⟨h, fun b hb => ⟨(hP b hb).1, Nat.lt_of_lt_of_le (hP b hb).2 hs⟩⟩
theorem DAt.g_lt (h : DAt w B P g d) : P g ∧ B ≤ w.heap.size := by
  obtain ⟨⟨R, M, D, val, h1⟩, h2⟩ := h
  have := h2 g h1.fg
  exact ⟨h1.fg, by omega⟩

/-- A write; a flush. -/
def DS.alive (d : DS) : Bool := !deadS d.fu d.lf d.dd
def DS.write (d : DS) (i : Nat) (s : List UInt8) : DS := if d.alive then d.step.put i (if d.vs i = [] then [d.rd.getD i []] else d.vs i) s else d.step
def DS.flushed (d : DS) : DS := if d.alive then d.flush else d.step
def DS.most (d : DS) (N : Nat) : Prop := ∀ i, (d.vs i).length ≤ N
theorem write_most {N i : Nat} {s : List UInt8} (h : d.most N) (h1 : 1 ≤ N) : (d.write i s).most (N + 1) := by
  intro j
  unfold DS.write
  split
  · simp only [DS.put]
    split
    · split
      · simp; omega
      · have := h i
        simp; omega
    · exact Nat.le_succ_of_le (h j)
  · exact Nat.le_succ_of_le (h j)
theorem flushed_most {N : Nat} (h : d.most N) : d.flushed.most N := by
  intro j
  unfold DS.flushed
  split
  · simp [DS.flush]
  · exact h j
theorem write_len {i : Nat} {s : List UInt8} : (d.write i s).rd.length = d.rd.length := by
  unfold DS.write
  split <;> simp [DS.put, DS.step]
theorem flushed_len : d.flushed.rd.length = d.rd.length := by
  unfold DS.flushed
  split <;> simp [DS.flush, DS.step]

theorem awrite_any (h : DAt w B P g d) {i : Nat} (hi : i < d.rd.length) {s : List UInt8} (hs : s.length = 128) (hN : (d.vs i).length ≤ 10000) :
    Calls Try.prog 16 #[.pointer (some ⟨g, 0, none⟩), .int .i64 i, av s] w fun e w' => e = .returned (.int .i64 (if d.alive then 0 else 10)) ∧ (∃ P', DAt w' B P' g (d.write i s) ∧ ∀ b, P' b → P b ∨ w.heap.size ≤ b) ∧ Fr P w w' := by
  have hB := h.g_lt.2
  obtain ⟨⟨R, M, D, val, h1⟩, h2⟩ := h
  unfold DS.write DS.alive
  cases hd : deadS d.fu d.lf d.dd with
  | true =>
    refine (dwrite_dead h1 hi hd).mono ?_
    rintro e w1 ⟨rfl, k1, f1⟩
    exact ⟨rfl, ⟨P, DAt.of_same ⟨R, M, D, val, k1⟩ h2 f1.size, fun b hb => .inl hb⟩, f1⟩
  | false =>
    have hx : d.rd[i]? = some (d.rd.getD i []) := by simp [hi]
    refine (dwrite_any h1 hi hs hx hN hd).mono ?_
    rintro e w1 ⟨rfl, ⟨D', val', k1⟩, f1⟩
    exact ⟨rfl, DAt.of ⟨R, M, D', val', k1⟩ hB h2 f1.size, f1⟩
theorem awrite_bad (h : DAt w B P g d) {i : Int} (hi : i < 0 ∨ (d.rd.length : Int) ≤ i) {s : List UInt8} :
    Calls Try.prog 16 #[.pointer (some ⟨g, 0, none⟩), .int .i64 i, av s] w fun e w' => e = .returned (.int .i64 2) ∧ Fr (fun _ => False) w w' := by
  obtain ⟨⟨R, M, D, val, h1⟩, h2⟩ := h
  refine write_err (by omega) fun w1 hf => ?_
  have := has_any (h1.blk.keep hf (fun q => q)) i
  have he : hasE d.rd.length i = 2 := by unfold hasE; rw [if_neg (by have := h1.n0; omega), if_pos hi]
  rw [he] at this
  exact this
theorem aflush_any (h : DAt w B P g d) :
    Calls Try.prog 17 #[.pointer (some ⟨g, 0, none⟩)] w fun e w' => e = .returned (.int .i64 (if d.alive then 0 else 10)) ∧ DAt w' B P g d.flushed ∧ Fr P w w' := by
  obtain ⟨⟨R, M, D, val, h1⟩, h2⟩ := h
  unfold DS.flushed DS.alive
  cases hd : deadS d.fu d.lf d.dd with
  | true =>
    refine (dflush_dead h1 hd).mono ?_
    rintro e w1 ⟨rfl, k1, f1⟩
    exact ⟨rfl, DAt.of_same ⟨R, M, D, val, k1⟩ h2 f1.size, f1⟩
  | false =>
    refine (dflush_any h1 hd).mono ?_
    rintro e w1 ⟨rfl, ⟨D', k1⟩, f1⟩
    exact ⟨rfl, DAt.of_same ⟨R, M, D', val, k1⟩ h2 f1.size, f1⟩
theorem afuse_any (h : DAt w B P g d) (k : Int) (h0 : ¬ k < 0) (h1 : k ≤ 9223372036854775807) :
    Calls Try.prog 25 #[.pointer (some ⟨g, 0, none⟩), .int .i64 k] w fun e w' => e = .returned (.int .i64 0) ∧ DAt w' B P g { d with fu := true, lf := k } ∧ Fr P w w' := by
  obtain ⟨⟨R, M, D, val, k1⟩, k2⟩ := h
  refine (dfuse_any k1 k h0 h1).mono ?_
  rintro e w1 ⟨rfl, j1, f1⟩
  have f2 : Fr P w w1 := f1.mono (fun i _ e => by have e' : i = g := e; rw [e']; exact k1.fg)
  exact ⟨rfl, DAt.of_same ⟨R, M, D, val, j1⟩ k2 f1.size, f2⟩
theorem adead_any (h : DAt w B P g d) : Calls Try.prog 33 #[.pointer (some ⟨g, 0, none⟩)] w fun e w' => e = .returned (.bool d.dd) ∧ w = w' := by
  obtain ⟨⟨R, M, D, val, k1⟩, k2⟩ := h
  have := dead_any k1.blk
  rw [decide_eq_false (by have := k1.n0; omega)] at this
  simpa using this
theorem aread_any (h : DAt w B P g d) {k : Nat} (hk : k < d.rd.length) : Calls Try.prog 19 #[.pointer (some ⟨g, 0, none⟩), .int .i64 k] w fun e w' => e = .returned (.tuple #[av (d.rd.getD k []), .int .i64 0]) ∧ Fr (fun _ => False) w w' := by
  obtain ⟨⟨R, M, D, val, k1⟩, k2⟩ := h
  exact dread_any k1 (by simp [hk])
theorem aread_bad (h : DAt w B P g d) {i : Int} (hi : i < 0 ∨ (d.rd.length : Int) ≤ i) : Calls Try.prog 19 #[.pointer (some ⟨g, 0, none⟩), .int .i64 i] w fun e w' => e = .returned (.tuple #[av (nought 128), .int .i64 2]) ∧ Fr (fun _ => False) w w' := by
  obtain ⟨⟨R, M, D, val, k1⟩, k2⟩ := h
  exact dread_bad k1 hi
theorem acrash_any (h : DAt w B P g d) {vp : Value} {picks : List Int} (hp : IntsAt w vp picks) (hpF : ∀ b, vp.ownBlock = some b → ¬ P b) (hN : d.most 1000000) :
    Calls Try.prog 18 #[.pointer (some ⟨g, 0, none⟩), vp] w fun e w' => e = .returned (.int .i64 0) ∧ DAt w' B P g (d.crash picks) ∧ Fr P w w' := by
  obtain ⟨⟨R, M, D, val, k1⟩, k2⟩ := h
  refine (dcrash_any k1 hp (fun b hb => ⟨fun e => hpF b hb (e ▸ k1.fR), fun e => hpF b hb (e ▸ k1.fM)⟩) (fun i _ => hN i)).mono ?_
  rintro e w1 ⟨rfl, ⟨D', j1⟩, f1⟩
  exact ⟨rfl, DAt.of_same ⟨R, M, D', val, j1⟩ k2 f1.size, f1⟩
theorem asame_any {g' : Nat} {P' : Nat → Prop} {B' : Nat} {o : DS} (h : DAt w B P g d) (k : DAt w B' P' g' o) :
    Calls Try.prog 10 #[.pointer (some ⟨g, 0, none⟩), .pointer (some ⟨g', 0, none⟩)] w fun e w' => ∃ b : Bool, e = .returned (.bool b) ∧ (b = true ↔ d.Like o) ∧ Fr (fun _ => False) w w' := by
  obtain ⟨⟨R, M, D, val, k1⟩, k2⟩ := h
  obtain ⟨⟨R', M', D', val', j1⟩, j2⟩ := k
  exact dsame_any k1 j1
end

/-- couponlaw03.few. -/
def fewB (xs : List ActD) (m : Nat) : Bool := xs.all (fun x => decide (x.ps.length ≤ 100)) && decide (xs.length ≤ m)
theorem few_any {w : World} {v : Value} {xs : List ActD} (h : ActV w v xs) (m : Nat) :
    Calls Try.prog 4 #[v, .int .i64 m] w fun e w' => e = .returned (.bool (fewB xs m)) ∧ Fr (fun _ => False) w w' := by
  obtain ⟨A, cap, rfl, hl, h2⟩ := h
  obtain ⟨n, hn⟩ : ∃ n, n = xs.length := ⟨_, rfl⟩
  rw [← hn] at hl h2 ⊢
  have hn9 : n ≤ 9223372036854775807 := by simp only [maxLen] at hl; omega
  obtain ⟨z, hz⟩ : ∃ z, z = fewB xs m := ⟨_, rfl⟩
  rw [← hz]
  have HZ := Lib.hid (And.intro hz (And.intro hn h2))
  clear hl h2 hz hn
  go_enter Try.func4, Try.ntmps4
  go_wp2_with fail
  go_loopw [5] (fun i wr => ∃ k : Nat, i = .int .i64 k ∧ k ≤ n ∧ Hid (∀ i x, i < k → xs[i]? = some x → x.ps.length ≤ 100) ∧ Hid (Fr (fun _ => False) w wr)) (fun i _ => n - (intOf i).toNat)
  case atStart => exact ⟨0, rfl, Nat.zero_le _, Lib.hid (fun i x hi => absurd hi (by omega)), Lib.hid (Fr.refl _ _)⟩
  case round =>
    obtain ⟨k, rfl, hk, HA, HF⟩ := hrel
    by_cases hlt : k < n
    · obtain ⟨b, off, rfl, hs⟩ := HZ.out.2.2 (by omega)
      obtain ⟨x, hx⟩ : ∃ x, xs[k]? = some x := ⟨_, List.getElem?_eq_getElem (by have := HZ.out.2.1; omega)⟩
      have ha := (hs k x hx).new HF.out
      obtain ⟨Ap, cp, hpv, hpl, _⟩ := ha.in_.pi
      have c4 := ha.c4
      rw [hpv] at c4
      obtain ⟨np, hnp⟩ : ∃ np, np = x.ps.length := ⟨_, rfl⟩
      rw [← hnp] at c4 hpl
      have hp9 : np ≤ 9223372036854775807 := by simp only [maxLen] at hpl; omega
      have HX := Lib.hid (And.intro hx hnp)
      have hi0 : (0 : Int) ≤ (k : Int) := by omega
      have hi1 : (k : Int) < (n : Int) := by omega
      clear ha hs hx hpl hnp hpv hk
      by_cases hp : np ≤ 100
      · have hd : ¬ ((np : Int) > 100) := by omega
        have hd' : ¬ (100 < (np : Int)) := by omega
        go_wp2_with fail
        refine ⟨⟨k + 1, by go_num, by omega, Lib.hid (fun i y hi hy => ?_), HF⟩, by simp [intOf]; omega⟩
        by_cases e : i = k
        · subst e
          rw [HX.out.1] at hy
          injection hy with hy
          rw [← hy, ← HX.out.2]
          exact hp
        · exact HA.out i y (by omega) hy
      · have hd : (np : Int) > 100 := by omega
        have hd' : 100 < (np : Int) := by omega
        have hzf : z = false := by
          rw [HZ.out.1]
          unfold fewB
          have : xs.all (fun x => decide (x.ps.length ≤ 100)) = false := by
            rw [List.all_eq_false]
            exact ⟨x, List.mem_of_getElem? HX.out.1, by rw [← HX.out.2]; simpa using hp⟩
          rw [this]; rfl
        go_wp2_with fail
        go_ret
        exact ⟨by rw [hzf]; rfl, HF.out⟩
    · obtain rfl : k = n := by omega
      have hzf : z = decide ((k : Int) ≤ (m : Int)) := by
        rw [HZ.out.1]
        unfold fewB
        have : xs.all (fun x => decide (x.ps.length ≤ 100)) = true := by
          rw [List.all_eq_true]
          intro x hx
          obtain ⟨i, hi⟩ := List.getElem?_of_mem hx
          have := (List.getElem?_eq_some_iff.1 hi).1
          simpa using HA.out i x (by have := HZ.out.2.1; omega) hi
        rw [this, ← HZ.out.2.1]
        simp [Bool.eq_iff_iff]
      clear hlt hk
      go_wp2_with fail
      go_ret
      exact ⟨by rw [hzf]; simp, HF.out⟩
theorem errno_any (w : World) (b : Bool) : Calls Try.prog 22 #[.bool b] w fun e w' => e = .returned (.int .i64 (if b then 0 else 10)) ∧ w = w' := by
  cases b
  all_goals
    go_enter Try.func22, Try.ntmps22
    go_wp2_with fail
    go_ret
    exact ⟨rfl, rfl⟩

/-- couponlaw03.begin. -/
theorem begin_any (w : World) {n : Nat} (h0 : 0 < n) (h1 : n ≤ 8192) : Calls Try.prog 6 #[.int .i64 n] w fun e w' =>
    ∃ g g', e = .returned (.tuple #[.pointer (some ⟨g, 0, none⟩), .pointer (some ⟨g', 0, none⟩), .bool true]) ∧
      (∃ P v vs, DAt w' w.heap.size P g (newD n) ∧ RefW w' g' v vs (newR n) ∧ ∀ b, RIn g' v vs b → w.heap.size ≤ b ∧ ¬ P b) ∧ Fr (fun _ => False) w w' := by
  have H1 := new_any w h0 h1
  go_enter Try.func6, Try.ntmps6
  go_wp2_with fail
  refine H1.mono ?_
  rintro e w1 ⟨rfl, hd, f1⟩
  have HD := Lib.hid (And.intro hd f1)
  have H2 := rnew_any w1 h1
  clear hd f1 H1
  go_wp2_with fail
  refine H2.mono ?_
  rintro e w2 ⟨rfl, ⟨v, vs, hr, hin⟩, f2⟩
  have HR := Lib.hid (And.intro hr (And.intro hin f2))
  clear hr hin f2 H2
  go_wp2_with fail
  go_ret3
  refine ⟨_, _, rfl, ?_, HD.out.2.trans HR.out.2.2 (fun _ _ q => q)⟩
  obtain ⟨P', hP1, hP2⟩ := DAt.of (w := w) (w' := w1) (P := fun _ => False) (B := w.heap.size) ⟨_, _, _, _, HD.out.1.mono (fun i hi => .inr hi)⟩ (Nat.le_refl _) (fun b hb => hb.elim) HD.out.2.size
  refine ⟨P', v, vs, hP1.new HR.out.2.2, HR.out.1, fun b hb => ?_⟩
  have h3 := HR.out.2.1 b hb
  have h4 := HD.out.2.size
  exact ⟨by omega, fun q => by have := (hP1.2 b q).2; omega⟩
end Go.Proofs.Ytiobmejnamdneaa
