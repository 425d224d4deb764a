/- Join. -/
import Derived.Test.YtbnegiiombnnaaaTgl
import Derived.Test.YtbnegiiombnnaaaCon
import Derived.Deep.RegionHeld3
namespace Go.Proofs.Ytbnegiiombnnaaa
open Go.RowKit

/-- A list of sectors, in memory. -/
def SecIn (w : World) (v : Value) (ss : List (List UInt8)) : Prop :=
  (ss = [] ∧ ∃ A cap, v = .slice A 0 cap) ∨ ∃ b off cap, v = .slice (some ⟨b, off, none⟩) ss.length cap ∧ 0 < ss.length ∧ SecsAt w b off ss
theorem SecsAt.keep {F : Nat → Prop} {w w' : World} {b off : Nat} {ss : List (List UInt8)} (h : SecsAt w b off ss) (hf : Fr F w w') (hF : ¬ F b) : SecsAt w' b off ss := fun i s hi => ⟨(h i s hi).1, fun j v hv => by
  have h1 := (h i s hi).2 j v hv
  exact (hf.cell (World.block_lt_of_cell? w _ h1) hF).trans h1⟩
theorem SecIn.new {w w' : World} {v : Value} {ss : List (List UInt8)} (h : SecIn w v ss) (hf : Fr (fun _ => False) w w') : SecIn w' v ss := by
  rcases h with h | ⟨b, off, cap, e, h0, h⟩
  · exact .inl h
  · exact .inr ⟨b, off, cap, e, h0, h.keep hf (fun q => q)⟩

/-- The tag that sectors begin with; the pieces of the row. -/
def tagAt (ss : List (List UInt8)) : Nat × Nat := ((hdOf (hv ss 0)).c, (hdOf (hv ss 0)).n)
def togAll (ss : List (List UInt8)) : Option (List UInt8) := if ss = [] then none else if mayT (tagAt ss).1 ((tagAt ss).2 : Int) then togOf ss else none
/-- The row that sectors begin with. -/
def joinOf (ss : List (List UInt8)) : Option (List UInt8) := (togAll ss).bind conOf

theorem tog_any {w : World} {v : Value} {ss : List (List UInt8)} (h : SecIn w v ss) (hreach : ss.length ≤ 1099511627776) :
    Calls Try.prog 28 #[v] w (TogR w (tagAt ss).1 (tagAt ss).2 (togAll ss)) := by
  rcases h with ⟨rfl, A, cap, rfl⟩ | ⟨b, off, cap, rfl, hl, h⟩
  · refine (tog_nil w A cap).mono ?_
    rintro e w' ⟨rfl, hf⟩
    exact ⟨fun _ => rfl, (fun l hl => by simp [togAll] at hl), hf⟩
  · have hne : ss ≠ [] := by intro e; rw [e] at hl; simp at hl
    obtain ⟨s, h0⟩ : ∃ s, ss[0]? = some s := ⟨_, List.getElem?_eq_getElem hl⟩
    have hv0 : hv ss 0 = s.take 64 := by simp [hv, h0]
    cases hm : mayT (tagAt ss).1 ((tagAt ss).2 : Int) with
    | false =>
      have e1 : togAll ss = none := by unfold togAll; rw [if_neg hne, hm]; rfl
      have e2 : tagOf s = (0, 0) := by
        unfold tagOf
        simp only [tagAt, hv0] at hm
        simp [hm]
      refine (tog_bad h h0 (by rw [e2]; decide)).mono ?_
      rintro e w' ⟨rfl, hf⟩
      exact ⟨fun _ => rfl, (fun l hl => by rw [e1] at hl; cases hl), hf⟩
    | true =>
      have e1 : togAll ss = togOf ss := by unfold togAll; rw [if_neg hne, hm]; rfl
      rw [e1]
      exact tog_ok h h0 hreach (c := (tagAt ss).1) (n := (tagAt ss).2) (p := (hdOf (hv ss 0)).p) (m := (hdOf (hv ss 0)).m) rfl hm

theorem togOf_len {ss : List (List UInt8)} (hs : ∀ s ∈ ss, s.length = 128) {l : List UInt8} (h : togOf ss = some l) : l.length % 48 = 0 ∧ l.length ≤ ss.length * 96 := by
  unfold togOf at h
  simp only at h
  split at h
  · rename_i hc
    injection h with h
    subst h
    have hl : ∀ m, ((List.range m).flatMap fun k => (hv ss k).drop 16).length = m * 48 := fun m => by
      induction m with
      | zero => rfl
      | succ m ih =>
        rw [List.range_succ, List.flatMap_append, List.length_append, ih]
        simp [hv_len hs]
        omega
    rw [hl]
    omega
  · cases h

/-- What Join answers. -/
def JoinR (w : World) (t : Nat × Nat) (o : Option (List UInt8)) (e : Ending) (w' : World) : Prop :=
  (o = none → e = .returned (.tuple #[.agg #[.int .u64 0, .int .i64 0], .slice none 0 0, .int .i64 0, .int .i64 4])) ∧
    (∀ b, o = some b → ∃ A, e = .returned (.tuple #[.agg #[.int .u64 (t.1 : Nat), .int .i64 (t.2 : Nat)], .slice A b.length b.length, .int .i64 (needN b.length : Nat), .int .i64 0]) ∧ Rd w' A b.length b) ∧ Fr (fun _ => False) w w'

theorem results_join {tmps : Array Value} {w : World} {g2 : Nat} {x y a b c : Value} (h2 : tmps.getD 2 undef = .pointer (some ⟨g2, 0, none⟩)) (h3 : tmps.getD 3 undef = a) (h4 : tmps.getD 4 undef = b) (h5 : tmps.getD 5 undef = c)
    (b2 : Blk w g2 24 #[x, y]) : (results Try.f14 tmps).run Try.prog w = .ok (.tuple #[.agg #[x, y], a, b, c]) w := by
  have e2 := run_loadVar_row (P := Try.prog) w g2 24 24 #[x, y] (0, 0) _ b2 Try.underlying24 rfl infoTag
  have h2' : tmps[2]?.getD undef = .pointer (some ⟨g2, 0, none⟩) := by simpa using h2
  have h3' : tmps[3]?.getD undef = a := by simpa using h3
  have h4' : tmps[4]?.getD undef = b := by simpa using h4
  have h5' : tmps[5]?.getD undef = c := by simpa using h5
  simp [results, Try.f14, h2', h3', h4', h5', asAddr, e2]

theorem join_any {w : World} {v : Value} {ss : List (List UInt8)} (h : SecIn w v ss) (hreach : ss.length ≤ 1099511627776) :
    Calls Try.prog 14 #[v] w (JoinR w (tagAt ss) (joinOf ss)) := by
  have h1 : SecIn (w.alloc (.cells #[.int .u64 0, .int .i64 0] 24)) v ss := h.new ((Fr.refl _ w).alloc _)
  have HT := Lib.hid (tog_any h1 hreach)
  have HH := Lib.hid h
  clear h h1
  have hss : ∀ s ∈ ss, s.length = 128 := fun s hs => by
    rcases HH.out with ⟨rfl, _⟩ | ⟨b, off, cap, _, _, h⟩
    · cases hs
    · obtain ⟨i, hi, rfl⟩ := List.getElem_of_mem hs
      exact (h i _ (List.getElem?_eq_getElem hi)).1
  have HSS := Lib.hid hss
  clear hss
  obtain ⟨t, ht⟩ : ∃ t, t = tagAt ss := ⟨_, rfl⟩
  obtain ⟨o, ho⟩ : ∃ o, o = joinOf ss := ⟨_, rfl⟩
  rw [← ht, ← ho]
  rw [← ht] at HT
  obtain ⟨t1, t2⟩ := t
  have HO := Lib.hid ho
  clear ht ho
  go_enter Try.func14, Try.ntmps14
  go_wp2_with fail
  (with_reducible refine HT.out.mono ?_)
  rintro e w1 hr
  have key : ∃ (x y : Nat) (A : Option Addr) (n cp : Nat) (l : List UInt8), e = .returned (.tuple #[.agg #[.int .u64 (x : Nat), .int .i64 (y : Nat)], .slice A n cp]) ∧ Rd w1 A n l ∧ n ≤ cp ∧ (A = none → cp = 0) ∧ l.length % 48 = 0 ∧ n ≤ 140737488355328 ∧ (∀ ad, A = some ad → w.heap.size < ad.block ∧ ad.block < w1.heap.size) ∧ o = conOf l ∧ (conOf l ≠ none → x = t1 ∧ y = t2) := by
    obtain ⟨r1, r2, r3⟩ := hr
    cases hq : togAll ss with
    | none =>
      exact ⟨0, 0, none, 0, 0, [], r1 hq, Rd.nil _ _, Nat.le_refl _, fun _ => rfl, rfl, by omega, (fun ad h => by cases h), by rw [HO.out]; unfold joinOf; rw [hq]; rfl, fun h => absurd rfl h⟩
    | some l =>
      obtain ⟨A, cp, e1, e2, e3, e4, e5⟩ := r2 l hq
      have hl : l.length % 48 = 0 ∧ l.length ≤ ss.length * 96 := by
        unfold togAll at hq
        split at hq
        · cases hq
        · split at hq
          · exact togOf_len HSS.out hq
          · cases hq
      exact ⟨t1, t2, A, l.length, cp, l, e1, e2, e3, e4, hl.1, by omega, (fun ad h => ⟨by have := (e5 ad h).1; simp at this; omega, (e5 ad h).2⟩), by rw [HO.out]; unfold joinOf; rw [hq]; rfl, fun _ => ⟨rfl, rfl⟩⟩
  obtain ⟨x, y, A, n, cp, l, rfl, hrd, hncp, hA, h48, hnb, hblk, hoo, hxy⟩ := key
  have b2 : Blk w1 w.heap.size 24 #[.int .u64 0, .int .i64 0] := (Blk.new w _ _).keep hr.2.2 (fun q => q)
  have hf1 : Fr (fun _ => False) w w1 := ((Fr.refl _ w).alloc _).trans hr.2.2 (fun _ _ q => q)
  have h6 := Blk.new w1 24 #[.int .u64 (x : Nat), .int .i64 (y : Nat)]
  have hfa : Fr (fun _ => False) w1 (w1.alloc (.cells #[.int .u64 (x : Nat), .int .i64 (y : Nat)] 24)) := (Fr.refl _ w1).alloc _
  have HC := Lib.hid (content_any (w := w1.alloc (.cells #[.int .u64 (x : Nat), .int .i64 (y : Nat)] 24)) (hrd.keep hfa (fun _ _ q => q)) hA hncp h48 hnb (fun ad h => Nat.lt_of_lt_of_le (hblk ad h).2 hfa.size))
  have HB := Lib.hid (And.intro (b2.keep hfa (fun q => q)) (And.intro h6 (hf1.trans hfa (fun _ _ q => q))))
  have HXY := Lib.hid (And.intro hoo hxy)
  have HAB := Lib.hid fun ad h => (hblk ad h).1
  have hgs : w.heap.size < w1.heap.size := b2.lt
  clear hr hrd hA hncp h48 hnb hblk hoo hxy b2 hf1 h6 hfa HT HO HH HSS
  go_wp2_with fail
  (with_reducible refine HC.out.mono ?_)
  rintro e w3 ⟨c1, c2, c3⟩
  have b2 := HB.out.1.keep c3 (fun q => q)
  have b6 := HB.out.2.1.keep c3 (fun q => q)
  have hf3 := HB.out.2.2.trans c3 (fun _ _ q => q)
  have e0 := b2.cell 0
  have e1 := b2.cell 1
  have f0 := b2.frozen 0
  have f1 := b2.frozen 1
  have d0 := b6.cell 0
  have d1 := b6.cell 1
  simp at e0 e1 d0 d1
  cases hc : conOf l with
  | none =>
    obtain rfl := c1 hc
    have hon : o = none := by rw [HXY.out.1, hc]
    have HH3 := Lib.hid (And.intro b2 hf3)
    clear c1 c2 c3 b2 b6 hf3 HC
    go_wp2_with fail
    have z := (HH3.out.1.set_ 0 (.int .u64 0)).set_ 1 (.int .i64 0)
    refine bodyPost_ret (results_join rfl rfl rfl rfl z) rfl ⟨fun _ => rfl, (fun b hb => by rw [hon] at hb; cases hb), (HH3.out.2.setCell (p := ⟨w.heap.size, 0, none⟩) (.inr (Nat.le_refl _)) _).setCell (p := ⟨w.heap.size, 1, none⟩) (.inr (Nat.le_refl _)) _⟩
  | some b =>
    obtain ⟨A', rfl, hrb, hbl⟩ := c2 b hc
    obtain ⟨rfl, rfl⟩ := HXY.out.2 (by rw [hc]; exact fun h => by cases h)
    have hon : o = some b := by rw [HXY.out.1, hc]
    have HH3 := Lib.hid (And.intro b2 (And.intro hf3 (And.intro hrb hon)))
    have HA' : Hid (∀ ad, A' = some ad → w.heap.size < ad.block) := Lib.hid fun ad had => by
      obtain ⟨ad0, h0, h1⟩ := hbl ad had
      rw [h1]
      exact HAB.out ad0 h0
    have HN := Lib.hid fun w => need_any w (b.length : Int)
    have HKP : Hid (∀ u v', (((w3.setCell ⟨w.heap.size, 0, none⟩ u).setCell ⟨w.heap.size, 1, none⟩ v').drew.cell? ⟨w1.heap.size, 0, none⟩ = some (.int .u64 (x : Nat))) ∧ (((w3.setCell ⟨w.heap.size, 0, none⟩ u).setCell ⟨w.heap.size, 1, none⟩ v').drew.cell? ⟨w1.heap.size, 1, none⟩ = some (.int .i64 (y : Nat)))) := Lib.hid fun u v' => by
      have ff : Fr (fun j => j = w.heap.size) w3 ((w3.setCell ⟨w.heap.size, 0, none⟩ u).setCell ⟨w.heap.size, 1, none⟩ v').drew := (((Fr.refl (fun j => j = w.heap.size) w3).setCell (p := ⟨w.heap.size, 0, none⟩) (.inl rfl) _).setCell (p := ⟨w.heap.size, 1, none⟩) (.inl rfl) _).drew
      have hbk := b6.keep ff (by omega)
      have k0 := hbk.cell 0
      have k1 := hbk.cell 1
      exact ⟨by simpa using k0, by simpa using k1⟩
    clear c1 c2 c3 b2 b6 hf3 HC hrb hon hbl
    go_wp2_with fail
    go_region_held3 (fun w' => w'.cell? ⟨w1.heap.size, 0, none⟩ = some (.int .u64 (x : Nat)) ∧ w'.cell? ⟨w1.heap.size, 1, none⟩ = some (.int .i64 (y : Nat)))
      (first | (exact HKP.out (.int .u64 (x : Nat)) (.int .i64 (y : Nat))) | (exact (HKP.out (.int .u64 (x : Nat)) (.int .i64 (y : Nat))).1) | (exact (HKP.out (.int .u64 (x : Nat)) (.int .i64 (y : Nat))).2) | go_keep)
      ((first
        | (go_at_call 10; refine (HN.out _).mono ?_; rintro e w4 ⟨rfl, rfl⟩)))
    all_goals
      go_wp2_with fail
      have z : Blk ((w3.setCell ⟨w.heap.size, 0, none⟩ (.int .u64 (x : Nat))).setCell ⟨w.heap.size, 1, none⟩ (.int .i64 (y : Nat))).drew w.heap.size 24 #[.int .u64 (x : Nat), .int .i64 (y : Nat)] := (HH3.out.1.set_ 0 _).set_ 1 _
      have zf : Fr (fun j => j = w.heap.size) w3 ((w3.setCell ⟨w.heap.size, 0, none⟩ (.int .u64 (x : Nat))).setCell ⟨w.heap.size, 1, none⟩ (.int .i64 (y : Nat))).drew := (((Fr.refl (fun j => j = w.heap.size) w3).setCell (p := ⟨w.heap.size, 0, none⟩) (.inl rfl) _).setCell (p := ⟨w.heap.size, 1, none⟩) (.inl rfl) _).drew
      refine bodyPost_ret (results_join rfl rfl rfl rfl z) rfl ⟨(fun hn => by rw [HH3.out.2.2.2] at hn; cases hn), fun b' hb' => ?_, HH3.out.2.1.trans zf (fun j hj q => by omega)⟩
      rw [HH3.out.2.2.2] at hb'
      injection hb' with hb'
      subst hb'
      exact ⟨A', rfl, HH3.out.2.2.1.keep zf (fun ad had q => by have := HA'.out ad had; omega)⟩
end Go.Proofs.Ytbnegiiombnnaaa
