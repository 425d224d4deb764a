/- The law WalPlays. -/
import Derived.Test.YtjdbgojnpnlblaaGreatVye
namespace Go.Proofs.YtjdbgojnpnlblaaGreat
open Go.RowKit

section
variable {P : Program} {ops : Array Oper} {Q : Exit → Act → World → Prop} {md : Region.Mode} {S : World → Prop}
set_option maxRecDepth 100000 in
/-- Two operations are ready: whichever comes up. -/
theorem anyH_alt (i j : Nat) {fuel : Nat} {listed : Array Bool} {T : Array Value} {ds : List Deferred} {w : World} (hr : Region.ready md ops listed = [i, j])
    (hi : wpOp P ops Q i (fun a' w' => S w' ∧ wpAnyH P md ops Q S fuel (listed.setIfInBounds i true) a' w') { tmps := T, defers := ds } w)
    (hj : wpOp P ops Q j (fun a' w' => S w' ∧ wpAnyH P md ops Q S fuel (listed.setIfInBounds j true) a' w') { tmps := T, defers := ds } w) : wpAnyH P md ops Q S (fuel + 1) listed { tmps := T, defers := ds } w := by
  refine wpAnyH_all hr (by simp) fun q hq => ?_
  simp only [List.mem_cons, List.not_mem_nil, or_false] at hq
  rcases hq with rfl | rfl
  · exact hi
  · exact hj
end
theorem build_rl2 (a b z : Int) (w : World) : (Instr.build 43 #[(0, .int .u64 a), (1, .int .u64 b), (2, .int .i64 z)]).run Tryz.prog w = .ok (.agg #[.int .u64 a, .int .u64 b, .int .i64 z, .slice none 0 0, .int .i64 0]) w := by kernel_rfl
theorem StA.mono {w : World} {B g z K K' : Nat} {xo qo : Option Addr} {d : DS} (h : StA w B g z K xo qo d) (hK : K ≤ K') : StA w B g z K' xo qo d := by
  rcases h with ⟨lb, L, c, s, e, q, A, cp, h1, h2, h3, h4, h5, h6⟩ | ⟨h1, h2⟩
  · exact .inl ⟨lb, L, c, s, e, q, A, cp, h1, h2, h3, h4, ⟨h5.ri, h5.nw, Nat.le_trans h5.cK hK⟩, h6⟩
  · exact .inr ⟨h1.mono hK, h2⟩
theorem StA.keep {w w' : World} {B g z K : Nat} {xo qo : Option Addr} {d : DS} {F : Nat → Prop} (h : StA w B g z K xo qo d) (f : Fr F w w') (h1 : ∀ b cs, Blk w b 84 cs → ¬ F b) (h2 : ∀ b cs, Blk w b 43 cs → ¬ F b) (h3 : ∀ b cs, Blk w b 60 cs → ¬ F b) (h4 : ∀ b cs, Blk w b 120 cs → ¬ F b) : StA w' B g z K xo qo d := by
  rcases h with ⟨lb, L, c, s, e, q, A, cp, k1, k2, k3, k4, k5, k6, k7, k8⟩ | ⟨k1, k2⟩
  · exact .inl ⟨lb, L, c, s, e, q, A, cp, k1, k2, k3, k4, k5, k6.keep f (h1 _ _ k6), k7.keep f (h2 _ _ k7), RcsK.types k8 f h3 h4⟩
  · refine .inr ⟨k1, ?_⟩
    rcases k2 with k2 | ⟨lb, c, s, us, m, k2, k3⟩
    · exact .inl k2
    · exact .inr ⟨lb, c, s, us, m, k2, k3.keep f (h1 _ _ k3)⟩
theorem StA.new {w w' : World} {B g z K : Nat} {xo qo : Option Addr} {d : DS} (h : StA w B g z K xo qo d) (f : Fr (fun _ => False) w w') : StA w' B g z K xo qo d :=
  h.keep f (fun _ _ _ q => q) (fun _ _ _ q => q) (fun _ _ _ q => q) (fun _ _ _ q => q)
theorem PlS.new {w w' : World} {B bd bs bq bx g z K N : Nat} (h : PlS w B bd bs bq bx g z K N) (f : Fr (fun _ => False) w w') {K' : Nat} (hK : K ≤ K') : PlS w' B bd bs bq bx g z K' N := by
  obtain ⟨P, d, xo, qo, h1, h2, h3, h4⟩ := h
  exact ⟨P, d, xo, qo, h1.new f, h2.keep0 f, h3, (h4.new f).mono hK⟩
theorem DT.less {w : World} {B B' g : Nat} {P : Nat → Prop} {d : DS} (h : DT w B g d P) (hB : B' ≤ B) : DT w B' g d P :=
  ⟨⟨h.1.1, fun b hb => ⟨Nat.le_trans hB (h.1.2 b hb).1, (h.1.2 b hb).2⟩⟩, h.2⟩
/-- What lies on the disk may be opened. -/
theorem StA.opa {w : World} {B g z K : Nat} {xo qo : Option Addr} {d : DS} (h : StA w B g z K xo qo d) : OpA d z K := by
  rcases h with ⟨lb, L, c, s, e, q, A, cp, _, _, _, _, h5, _⟩ | ⟨h1, _⟩
  · exact .inl ⟨c, s, q, e, h5.cK, h5.ri⟩
  · exact .inr h1
theorem OpA.crash {d : DS} {z K : Nat} (h : OpA d z K) (p : List Int) : OpA (d.crash p) z K := by
  rcases h with ⟨c, s, q, e, hc, hr⟩ | h
  · obtain ⟨k1, k2⟩ := crash_rest hr.vs p
    exact .inl ⟨c, s, q, e, hc, hr.same k1 k2⟩
  · obtain ⟨c, s, q, e, hc, hr⟩ := h.aft p
    exact .inl ⟨c, s, q, e, hc, hr⟩
theorem OpA.most {d : DS} {z K : Nat} (h : OpA d z K) : d.most 1000000 := by
  rcases h with ⟨c, s, q, e, hc, hr⟩ | h
  · exact fun j => by rw [hr.vs j]; exact Nat.zero_le _
  · exact fun j => Nat.le_trans (h.mo j) (by omega)
theorem StA.fuse {w : World} {B g z K : Nat} {xo qo : Option Addr} {d : DS} (h : StA w B g z K xo qo d) (f : Int) : StA w B g z K xo qo { d with fu := true, lf := f } := by
  rcases h with ⟨lb, L, c, s, e, q, A, cp, k1, k2, k3, k4, k5, k6⟩ | ⟨k1, k2⟩
  · exact .inl ⟨lb, L, c, s, e, q, A, cp, k1, k2, k3, k4, ⟨k5.ri.same (d' := { d with fu := true, lf := f }) rfl k5.ri.vs, k5.nw, k5.cK⟩, k6⟩
  · exact .inr ⟨k1.same rfl rfl k1.dd, k2⟩
theorem afuse_neg {w : World} {B g : Nat} {P : Nat → Prop} {d : DS} (h : DAt w B P g d) (k : Int) (hk : k < 0) : Calls Tryz.prog 31 #[.pointer (some ⟨g, 0, none⟩), .int .i64 k] w fun e w' => e = .returned (.int .i64 2) ∧ w = w' := by
  obtain ⟨⟨R, M, D, val, k1⟩, k2⟩ := h
  exact fuse_neg k1.blk k1.n0 k hk
theorem secB_flat {w : World} {b : Nat} {ss : List (List UInt8)} (h : Blk w b 45 (cellsB ss.flatten).toArray) (hall : ∀ s ∈ ss, s.length = 128) : SecB w b ss := by
  refine ⟨_, h, ?_, hall, fun i s hi j v hv => ?_⟩
  · rw [List.size_toArray, cellsB_len]
    have key : ∀ l : List (List UInt8), (∀ s ∈ l, s.length = 128) → l.length * 128 ≤ l.flatten.length := fun l => by
      induction l with
      | nil => intro _; exact Nat.zero_le _
      | cons a l ih =>
        intro hl
        have h1 := ih (fun s hs => hl s (by simp [hs]))
        have h2 := hl a (by simp)
        rw [List.flatten_cons, List.length_append, List.length_cons]
        omega
    exact key ss hall
  · rw [List.getElem?_toArray]
    exact flat_at hall hi j v hv
/-- A new disk behind Format. -/
theorem format_new {N z : Nat} (hz : z + 1 ≤ N) : ((newD N).format z).rd = (List.replicate N (nought 128)).set 0 (hdS 1 1) := by
  obtain ⟨k1, k2⟩ := (KD.new (N := N) (by omega)).format hz
  apply List.ext_getElem?
  intro j
  by_cases hj : j < N
  · rcases Nat.eq_zero_or_pos j with h0 | h0
    · rw [h0, k2.hd, List.getElem?_set_self (by rw [List.length_replicate]; omega)]
    · rw [k2.bd j h0 hj, List.getElem?_set_ne (by omega), List.getElem?_replicate, if_pos hj]
      split <;> rfl
  · rw [List.getElem?_eq_none (by rw [k2.ln]; omega), List.getElem?_eq_none (by rw [List.length_set, List.length_replicate]; omega)]
set_option maxRecDepth 100000 in
set_option maxHeartbeats 8000000 in
theorem plays_any {w : World} {v : Value} {xs : List StepD} (hx : StpV w v xs) {m : Int} : Calls Tryz.prog 4 #[.int .i64 m, v] w fun e w' => e = .returned (.bool true) ∧ Fr (fun _ => False) w w' := by
  have HX := Lib.hid hx
  obtain ⟨A, cap, rfl, hxm, _⟩ := hx
  have h9 : xs.length ≤ 9223372036854775807 := by simp only [maxLen] at hxm; omega
  obtain ⟨n, hn⟩ : ∃ n, n = xs.length := ⟨_, rfl⟩
  have HFW := Lib.hid (lfew_any HX.out 40 (by omega))
  rw [← hn] at HX h9 HFW ⊢
  have HN := Lib.hid hn
  have hfb : Fr (fun _ => False) w (w.alloc (.cells #[.int .i64 m] 3)) := (Fr.refl _ w).alloc _
  have HFB := Lib.hid hfb
  have HFW2 := Lib.hid (lfew_any (HX.out.old (Nat.le_refl _) (hfb.mono (fun _ _ q => q.elim))) 40 (by omega))
  rw [← hn] at HFW2
  clear hxm hn hfb HFW
  go_enter Tryz.func4, Tryz.ntmps4
  go_wp2_with fail
  refine HFW2.out.mono ?_
  rintro en w2 ⟨⟨bb, rfl, hbb⟩, rfl⟩
  have HB := Lib.hid hbb
  clear hbb HFW2
  cases bb with
  | false =>
    go_wp2_with fail
    refine (known_any _).mono ?_
    rintro e wk ⟨rfl, fk⟩
    have HK := Lib.hid (HFB.out.trans fk (fun _ _ q => q))
    clear fk
    go_wp2_with fail
    go_ret
    exact ⟨rfl, HK.out⟩
  | true =>
    by_cases h2 : m < 4
    · go_wp2_with fail
      refine (known_any _).mono ?_
      rintro e wk ⟨rfl, fk⟩
      have HK := Lib.hid (HFB.out.trans fk (fun _ _ q => q))
      clear fk
      go_wp2_with fail
      go_ret
      exact ⟨rfl, HK.out⟩
    by_cases h3 : 200 < m
    · go_wp2_with fail
      refine (known_any _).mono ?_
      rintro e wk ⟨rfl, fk⟩
      have HK := Lib.hid (HFB.out.trans fk (fun _ _ q => q))
      clear fk
      go_wp2_with fail
      go_ret
      exact ⟨rfl, HK.out⟩
    obtain ⟨z, rfl⟩ : ∃ z : Nat, m = z := ⟨m.toNat, by omega⟩
    have h4 : 4 ≤ z := by omega
    have h200 : z ≤ 200 := by omega
    have HZ := Lib.hid (And.intro h4 h200)
    obtain ⟨w1, hw1⟩ : ∃ w1, w1 = w.alloc (.cells #[.int .i64 (z : Nat)] 3) := ⟨_, rfl⟩
    have hbs1 : Blk w1 w.heap.size 3 #[.int .i64 (z : Nat)] := by rw [hw1]; exact Blk.new w _ _
    have HFB1 := Lib.hid (show Fr (fun _ => False) w w1 by rw [hw1]; exact HFB.out)
    obtain ⟨bs, hbs⟩ : ∃ bs, bs = w.heap.size := ⟨_, rfl⟩
    rw [← hbs] at hbs1
    have ks0 := hbs1.cell 0
    simp only [List.getElem?_toArray, List.getElem?_cons_zero] at ks0
    have HW1 := Lib.hid (And.intro hw1 hbs)
    have ks00 : (w.alloc (.cells #[.int .i64 (z : Nat)] 3)).cell? ⟨w.heap.size, 0, none⟩ = some (.int .i64 (z : Nat)) := by rw [← hw1, ← hbs]; exact ks0
    clear hw1 hbs
    go_wp2_with fail
    rw [← HW1.out.1, ← HW1.out.2]
    clear ks00 HFB
    have HNW := anew_any w1 (n := z + 5) (by omega) (by omega)
    rw [show ((z + 5 : Nat) : Int) = (z : Int) + 5 by omega] at HNW
    refine HNW.mono ?_
    rintro en w3 ⟨g, P1, rfl, hd1, f1⟩
    clear HNW
    obtain ⟨k1, k2⟩ := RI.new (N := z + 5) (z := z) (by omega)
    have hfa : Fr (fun _ => False) w3 (w3.alloc (.cells #[.pointer (some ⟨g, 0, none⟩)] 24)) := (Fr.refl _ w3).alloc _
    have hbd0 := Blk.new w3 24 #[.pointer (some ⟨g, 0, none⟩)]
    have hd4 := hd1.new hfa
    have hbs4 := (hbs1.keep f1 (fun q => q)).keep hfa (fun q => q)
    have ks4 := hbs4.cell 0
    have kd4 := hbd0.cell 0
    simp only [List.getElem?_toArray, List.getElem?_cons_zero] at ks4 kd4
    obtain ⟨w4, hw4⟩ : ∃ w4, w4 = w3.alloc (.cells #[.pointer (some ⟨g, 0, none⟩)] 24) := ⟨_, rfl⟩
    obtain ⟨bd, hbd⟩ : ∃ bd, bd = w3.heap.size := ⟨_, rfl⟩
    have HW4 := Lib.hid (And.intro hw4 (And.intro hbd (show w.heap.size ≤ bd by have h1 := HFB1.out.size; have h2 := f1.size; omega)))
    rw [← hw4] at hfa hbd0 hd4 hbs4
    rw [← hbd] at hbd0
    have H4 := Lib.hid (And.intro hd4 (And.intro hbd0 (And.intro hbs4 (And.intro (show Fr (fun _ => False) w w4 from (HFB1.out.trans f1 (fun _ _ q => q)).trans hfa (fun _ _ q => q)) (And.intro hbs1.lt (And.intro k2 (And.intro (show ∀ b, P1 b → b < bd by rw [hbd]; exact fun b q => (hd1.2 b q).2) (show ∀ b, P1 b → w1.heap.size ≤ b from fun b q => (hd1.2 b q).1))))))))
    have HFM := Lib.hid (format_any hd4 (fun j => Nat.zero_le _) (z := z) h4 (by omega) (by simp [newD]))
    rw [if_pos k1] at HFM
    clear hd1 f1 k1 k2 hfa hbd0 hd4 hbs4 hw4 hbd hbs1 ks0
    go_wp2_with fail
    rw [← HW4.out.1]
    refine HFM.out.mono ?_
    rintro en w5 ⟨rfl, ⟨P5, hd5, hp5⟩, f5⟩
    clear HFM ks4 kd4
    have nb5 : ¬ P1 bs := fun q => by
      have h1 := H4.out.2.2.2.2.2.2.2 bs q
      have h2 := H4.out.2.2.2.2.1
      omega
    have nd5 : ¬ P1 bd := fun q => Nat.lt_irrefl _ (H4.out.2.2.2.2.2.2.1 bd q)
    have hbd5 := H4.out.2.1.keep f5 nd5
    have hbs5 := H4.out.2.2.1.keep f5 nb5
    have hB4 := H4.out.2.2.2.1.size
    have f5w : Fr (fun b => w.heap.size ≤ b) w w5 := (H4.out.2.2.2.1.mono (fun _ _ q => q.elim)).trans f5 (fun b _ q => by
      have h1 := H4.out.2.2.2.2.2.2.2 b q
      have h2 := HFB1.out.size
      show w.heap.size ≤ b
      omega)
    have hri := H4.out.2.2.2.2.2.1
    have hln5 : ((newD (z + 5)).format z).rd.length = z + 5 := by rw [format_new (by omega), List.length_set, List.length_replicate]
    have ks5 := hbs5.cell 0
    have kd5 := hbd5.cell 0
    simp only [List.getElem?_toArray, List.getElem?_cons_zero] at ks5 kd5
    have hmk := make_sectors w5 (z + 5) (by omega)
    rw [show ((z + 5 : Nat) : Int) = (z : Int) + 5 by omega] at hmk
    have hbk : Blk (w5.alloc (.cells (cellsB (nought ((z + 5) * 128))).toArray 45)) w5.heap.size 45 (cellsB (List.replicate (z + 5) (nought 128)).flatten).toArray := by
      rw [flat_nought]
      exact Blk.new w5 _ _
    have hsb6 := secB_flat hbk (fun s hs => by
      rw [List.mem_replicate] at hs
      rw [hs.2, nought_len])
    have f56 : Fr (fun _ => False) w5 (w5.alloc (.cells (cellsB (nought ((z + 5) * 128))).toArray 45)) := (Fr.refl _ w5).alloc _
    obtain ⟨w6, hw6⟩ : ∃ w6, w6 = w5.alloc (.cells (cellsB (nought ((z + 5) * 128))).toArray 45) := ⟨_, rfl⟩
    obtain ⟨bk, hbkk⟩ : ∃ bk, bk = w5.heap.size := ⟨_, rfl⟩
    have HW6 := Lib.hid (And.intro hw6 hbkk)
    rw [← hw6] at hsb6 f56
    rw [← hbkk] at hsb6
    have hDT : ∃ P, DT w5 w1.heap.size g ((newD (z + 5)).format z) P ∧ ∀ b, P b → P5 b ∨ w5.heap.size ≤ b := DT.of (S := w5.heap.size) (P0 := P5) hd5 (fun b q => .inl q)
    obtain ⟨P6, hd6, hp6⟩ := hDT
    have H5 := Lib.hid (And.intro hd6 (And.intro hbd5 (And.intro hbs5 (And.intro f5w (And.intro hri hln5)))))
    have H6 := Lib.hid (And.intro hsb6 (And.intro f56 (show w5.heap.size ≤ bk from Nat.le_of_eq hbkk.symm)))
    clear hbk hsb6 f56 hw6 hbkk hd5 hp5 hd6 hp6 f5w hri hln5 hbd5 hbs5 nb5 nd5 hB4 f5
    go_wp2_with fail
    rw [← HW6.out.1, ← HW6.out.2, ← HW4.out.2.1]
    refine (rhead_any w6 1 1 (by omega) (by omega)).mono ?_
    rintro en w7 ⟨rfl, f7⟩
    obtain ⟨s1, hs1⟩ : ∃ s1, s1 = hdS 1 1 := ⟨_, rfl⟩
    rw [← hs1]
    have hsl : s1.length = 128 := by rw [hs1]; exact hdS_len 1 1
    obtain ⟨th, hst⟩ := (H6.out.1.keep f7 (fun q => q)).set (i := 0) (s := s1) (by rw [List.length_replicate]; omega) hsl
    rw [Nat.zero_mul] at th hst
    have f67 := H6.out.2.1.trans f7 (fun _ _ q => q)
    have fss : Fr (fun b => b = bk) w7 (w7.setCells bk 0 (cellsB s1)) := Fr.setCells (F := fun b => b = bk) (b := bk) (vs := cellsB s1) (o := 0) (.inl rfl) (Fr.refl _ w7)
    have fsb : Fr (fun b => b = bk) w5 (w7.setCells bk 0 (cellsB s1)) := (f67.mono (fun _ _ q => q.elim)).trans fss (fun _ _ q => q)
    have nbk : ∀ b, b < w5.heap.size → ¬ b = bk := fun b h x => by
      have := H6.out.2.2
      omega
    have hd8 := H5.out.1.keep fsb (fun b hp => nbk b (H5.out.1.1.2 b hp).2)
    have hbd8 := H5.out.2.1.keep fsb (nbk _ H5.out.2.1.lt)
    have hbs8 := H5.out.2.2.1.keep fsb (nbk _ H5.out.2.2.1.lt)
    have f8w : Fr (fun b => w.heap.size ≤ b) w (w7.setCells bk 0 (cellsB s1)) := H5.out.2.2.2.1.trans fsb (fun b hb x => by
      have h1 := H6.out.2.2
      have h2 := H5.out.2.2.2.1.size
      show w.heap.size ≤ b
      omega)
    have ks8 := hbs8.cell 0
    have kd8 := hbd8.cell 0
    simp only [List.getElem?_toArray, List.getElem?_cons_zero] at ks8 kd8
    obtain ⟨w8, hw8⟩ : ∃ w8, w8 = w7.setCells bk 0 (cellsB s1) := ⟨_, rfl⟩
    have HW8 := Lib.hid hw8
    rw [← hw8] at hst hd8 hbd8 hbs8 f8w
    have H8 := Lib.hid (And.intro hd8 (And.intro hbd8 (And.intro hbs8 (And.intro f8w (And.intro hst (And.intro (And.intro hs1 hsl) th))))))
    have hz0 : ¬ z + 5 = 0 := by omega
    have hz1 : (0 : Int) < (z : Int) + 5 := by omega
    clear hd8 hbd8 hbs8 f8w hst fss fsb nbk f67 f7 hw8 hsl th hs1 ks5 kd5
    go_wp2_with (refine wpList_store_mid rfl 45 _ _ rfl bk 0 (cellsB s1).toArray rfl rfl H8.out.2.2.2.2.2.2 (by rw [infoSector]; simp [cellsB_len, H8.out.2.2.2.2.2.1.2]) (all_oneCell_toArray (cellsB_one _)) ?_)
    rw [← HW8.out]
    have HSC := Lib.hid (lsectors_any H8.out.1.1 (n := z + 5) (by omega) (by rw [H5.out.2.2.2.2.2]; exact Nat.le_refl _))
    rw [List.take_of_length_le (by rw [H5.out.2.2.2.2.2]; exact Nat.le_refl _), format_new (by omega), ← H8.out.2.2.2.2.2.1.1, show ((z + 5 : Nat) : Int) = (z : Int) + 5 by omega] at HSC
    refine HSC.out.mono ?_
    rintro en w9 ⟨b9, c9, rfl, _, j1, j2, hs9, f9⟩
    have hlr : ((List.replicate (z + 5) (nought 128)).set 0 s1).length = z + 5 := by rw [List.length_set, List.length_replicate]
    have HSM := Lib.hid (lsame_any (hs9.secV hlr.symm (by rw [hlr]; exact j1) j2) ((H8.out.2.2.2.2.1.keep f9 (fun q => q)).secV hlr.symm (by rw [hlr]; exact Nat.le_refl _) (by simp only [maxLen]; omega)))
    rw [decide_eq_true rfl] at HSM
    have H9 := Lib.hid f9
    clear hs9 j1 j2 f9 hlr HSC ks8 kd8
    go_wp2_with fail
    refine HSM.out.mono ?_
    rintro en w10 ⟨rfl, f10⟩
    have f810 := H9.out.trans f10 (fun _ _ q => q)
    have kd10 := (H8.out.2.1.keep f810 (fun q => q)).cell 0
    simp only [List.getElem?_toArray, List.getElem?_cons_zero] at kd10
    have HOP := Lib.hid (aopenL_any (H8.out.1.1.new f810))
    rw [rest_openL H5.out.2.2.2.2.1.vs] at HOP
    have H10 := Lib.hid f810
    clear f10 f810 HSM
    go_wp2_with fail
    refine HOP.out.mono ?_
    rintro en w12 ⟨vo, rfl, hvo, f12⟩
    obtain ⟨Ao, co, rfl, _, _⟩ := own_slice hvo
    have f812 := H10.out.trans f12 (fun _ _ q => q)
    have hbs12 := H8.out.2.2.1.keep f812 (fun q => q)
    have hbd12 := H8.out.2.1.keep f812 (fun q => q)
    have ks12 := hbs12.cell 0
    simp only [List.getElem?_toArray, List.getElem?_cons_zero] at ks12
    have hfa : Fr (fun _ => False) w12 (w12.alloc (.cells #[.pointer none] 28)) := (Fr.refl _ w12).alloc _
    have ks13 := (hbs12.keep hfa (fun q => q)).cell 0
    simp only [List.getElem?_toArray, List.getElem?_cons_zero] at ks13
    have hbr : ∀ W, (Instr.build 43 #[(0, .int .u64 1), (1, .int .u64 1), (2, .int .i64 (z : Nat))]).run Tryz.prog W = .ok (.agg #[.int .u64 1, .int .u64 1, .int .i64 (z : Nat), .slice none 0 0, .int .i64 0]) W := fun W => build_rl 1 1 (z : Int) W
    have hxa := Blk.new w12 28 #[.pointer none]
    obtain ⟨wa, hwa⟩ : ∃ wa, wa = w12.alloc (.cells #[.pointer none] 28) := ⟨_, rfl⟩
    rw [← hwa] at hxa hfa
    have hfb : Fr (fun _ => False) wa (wa.alloc (.cells #[.int .u64 1, .int .u64 1, .int .i64 (z : Nat), .slice none 0 0, .int .i64 0] 43)) := (Fr.refl _ wa).alloc _
    obtain ⟨wb, hwb⟩ : ∃ wb, wb = wa.alloc (.cells #[.int .u64 1, .int .u64 1, .int .i64 (z : Nat), .slice none 0 0, .int .i64 0] 43) := ⟨_, rfl⟩
    rw [← hwb] at hfb
    have hfc : Fr (fun _ => False) wb (wb.alloc (.cells #[.pointer (some ⟨wa.heap.size, 0, none⟩)] 38)) := (Fr.refl _ wb).alloc _
    have hqc := Blk.new wb 38 #[.pointer (some ⟨wa.heap.size, 0, none⟩)]
    obtain ⟨wc, hwc⟩ : ∃ wc, wc = wb.alloc (.cells #[.pointer (some ⟨wa.heap.size, 0, none⟩)] 38) := ⟨_, rfl⟩
    rw [← hwc] at hfc hqc
    have hac := (hfa.trans hfb (fun _ _ q => q)).trans hfc (fun _ _ q => q)
    have h8c := f812.trans hac (fun _ _ q => q)
    have hEc : EnvW wc w.heap.size bd bs wb.heap.size w12.heap.size g z none (some ⟨wa.heap.size, 0, none⟩) :=
      ⟨hbd12.keep hac (fun q => q), hbs12.keep hac (fun q => q), hqc, hxa.keep (hfb.trans hfc (fun _ _ q => q)) (fun q => q), HW4.out.2.2, by rw [HW1.out.2]; exact Nat.le_refl _, by have := (H8.out.2.2.2.1.trans (f812.trans (hfa.trans hfb (fun _ _ q => q)) (fun _ _ q => q)) (fun _ _ q => q.elim)).size; exact this, by have := (H8.out.2.2.2.1.trans f812 (fun _ _ q => q.elim)).size; exact this⟩
    have hsa : wa.heap.size = w12.heap.size + 1 := by rw [hwa]; simp
    have hsb : wb.heap.size = w12.heap.size + 1 + 1 := by rw [hwb]; simp [hsa]
    rw [hsa] at hwc hEc
    rw [hsb] at hEc
    obtain ⟨bq, hbq⟩ : ∃ bq, bq = w12.heap.size + 1 + 1 := ⟨_, rfl⟩
    obtain ⟨bx, hbx⟩ : ∃ bx, bx = w12.heap.size := ⟨_, rfl⟩
    rw [← hbq, ← hbx] at hEc
    have HWC := Lib.hid (And.intro hwa (And.intro hwb (And.intro hwc (And.intro hbq hbx))))
    have hd12 := (H8.out.1.keep0 h8c).less HFB1.out.size
    have f12w := H8.out.2.2.2.1.trans h8c (fun _ _ q => q.elim)
    have H12 := Lib.hid (And.intro hEc (And.intro hd12 f12w))
    have HCL := Lib.hid (wplays1_any (K := 1) hEc hd12 (N := z + 5) H5.out.2.2.2.2.2 (.inl ⟨1, 1, [], 0, Nat.le_refl _, H5.out.2.2.2.2.1⟩) h4 h200 rfl (by omega) f12w.size)
    clear hwa hwb hwc hbq hbx hEc hd12 f12w hqc hxa hfa hfb hfc hac h8c f812 hbs12 hbd12 hvo f12 HOP kd10 hsa hsb
    go_wp2_with fail
    rw [← HWC.out.1, ← HWC.out.2.1, ← HWC.out.2.2.1, ← HWC.out.2.2.2.1, ← HWC.out.2.2.2.2]
    refine HCL.out.mono ?_
    rintro en w13 ⟨rfl, hps, f13⟩
    have H13 := Lib.hid (And.intro hps (H12.out.2.2.trans f13 (fun _ _ q => q)))
    clear hps f13 HCL HWC ks12 ks13 hbr hmk hz0 hz1
    go_wp2_with fail
    go_loopw [11] (fun i wr => ∃ k : Nat, i = .int .i64 k ∧ k ≤ n ∧ Hid (PlS wr w.heap.size bd bs bq bx g z (2 + k) (z + 5)) ∧ Hid (Fr (fun b => w.heap.size ≤ b) w wr)) (fun i _ => n - (intOf i).toNat)
    case atStart => exact ⟨0, rfl, Nat.zero_le _, Lib.hid H13.out.1, Lib.hid H13.out.2⟩
    case round =>
      obtain ⟨k, rfl, hk, HP, HF⟩ := hrel
      by_cases hlt : k < n
      · obtain ⟨A0, cap0, e0, _, h5⟩ := HX.out
        injection e0 with e1 e2 e3
        subst e1
        obtain ⟨b, off, rfl, hat⟩ := h5 (by omega)
        obtain ⟨x, hx⟩ : ∃ x, xs[k]? = some x := ⟨_, List.getElem?_eq_getElem (by have := HN.out; omega)⟩
        have hs := (hat k x hx).old (Nat.le_refl _) HF.out
        obtain ⟨Al, cl, hlv, hl9⟩ := lv_form hs.l
        obtain ⟨Ap, cp, hpv, hp9⟩ := ints_form hs.p
        have c0 := hs.c0
        have c1 := hs.c1
        have c2 := hs.c2
        have c3 := hs.c3
        have hll := hs.l
        have hpp := hs.p
        have hpl := (hat k x hx).pl
        rw [hlv] at c2 hll
        rw [hpv] at c3 hpp hpl
        obtain ⟨nl, hnl⟩ : ∃ nl, nl = x.ls.length := ⟨_, rfl⟩
        obtain ⟨np, hnp⟩ : ∃ np, np = x.ps.length := ⟨_, rfl⟩
        rw [← hnl] at c2 hl9 hll
        rw [← hnp] at c3 hp9 hpp hpl
        obtain ⟨kk, hkk⟩ : ∃ kk, kk = x.k := ⟨_, rfl⟩
        obtain ⟨nx, hnx⟩ : ∃ nx, nx = x.n := ⟨_, rfl⟩
        rw [← hkk] at c0
        rw [← hnx] at c1
        have hox := (HB.out.1 trivial).2 x (List.mem_of_getElem? hx)
        have hn40 := (HB.out.1 trivial).1
        have hi0 : (0 : Int) ≤ (k : Int) := by omega
        have hi1 : (k : Int) < (n : Int) := by omega
        obtain ⟨P, d, xo, qo, hE, hd, hdl, hst⟩ := HP.out
        have HXX := Lib.hid (And.intro hll (And.intro hpp (And.intro hpl (And.intro hox (And.intro hnl (And.intro hnp (And.intro hn40 (show nx ≤ 9223372036854775807 by rw [hnx]; exact hs.n1))))))))
        have H0 := Lib.hid (And.intro hE (And.intro hd (And.intro hdl hst)))
        have f6 : Fr (fun _ => False) wr (wr.alloc (.cells #[.int .i64 kk, .int .i64 nx, .slice Al nl cl, .slice Ap np cp] 58)) := (Fr.refl _ wr).alloc _
        have hE6 := hE.new f6
        have hsb6 := Blk.new wr 58 #[.int .i64 kk, .int .i64 nx, .slice Al nl cl, .slice Ap np cp]
        have kx6 := hE6.x.cell 0
        have kd6 := hE6.d.cell 0
        have kq6 := hE6.q.cell 0
        have ks6 := hE6.s.cell 0
        have kt1 := hsb6.cell 1
        have kt2 := hsb6.cell 2
        have kt3 := hsb6.cell 3
        simp only [List.getElem?_toArray, List.getElem?_cons_zero, List.getElem?_cons_succ] at kx6 kd6 kq6 ks6 kt1 kt2 kt3
        obtain ⟨w6, hw6⟩ : ∃ w6, w6 = wr.alloc (.cells #[.int .i64 kk, .int .i64 nx, .slice Al nl cl, .slice Ap np cp] 58) := ⟨_, rfl⟩
        have HW6 := Lib.hid hw6
        rw [← hw6] at f6 hE6 hsb6
        have H6 := Lib.hid (And.intro f6 (And.intro hE6 (And.intro hsb6 (And.intro (hd.keep0 f6) (And.intro (hst.new f6) (HF.out.trans f6 (fun _ _ q => q.elim)))))))
        clear e2 e3 h5 hat hx hs hlv hpv hll hpp hpl hnl hnp hkk hnx hox hn40 hE hd hdl hst f6 hE6 hsb6 hw6 hlt
        by_cases k1 : kk = 1
        · subst k1
          rcases H6.out.2.2.2.2.1 with ⟨lb, L, c, s, e, q, A1, cp1, rfl, rfl, hBl, hBL, hlf, hlg, hbl, hrc⟩ | ⟨hde, rfl | ⟨lb, c, s, us, m, rfl, hlg⟩⟩
          · have hno : ∀ b t cs, Blk w6 b t cs → t ≠ 74 → t ≠ 45 → t ≠ 84 → t ≠ 43 → ¬ (P b ∨ b = lb ∨ b = L) := fun b t cs hb h1 h2 h3 h4 x => by
              rcases x with x | x | x
              · rcases H6.out.2.2.2.1.2 b t cs x hb with y | y
                · exact h1 y
                · exact h2 y
              · rw [x] at hb
                exact h3 (blk_type hb hlg)
              · rw [x] at hb
                exact h4 (blk_type hb hbl)
            have hn1 := hno _ _ _ H6.out.2.1.d (by decide) (by decide) (by decide) (by decide)
            have hn2 := hno _ _ _ H6.out.2.1.s (by decide) (by decide) (by decide) (by decide)
            have hn3 := hno _ _ _ H6.out.2.1.q (by decide) (by decide) (by decide) (by decide)
            have hn4 := hno _ _ _ H6.out.2.1.x (by decide) (by decide) (by decide) (by decide)
            have hn5 := hno _ _ _ H6.out.2.2.1 (by decide) (by decide) (by decide) (by decide)
            have HC : Hid (∀ w'', Fr (fun b => P b ∨ b = lb ∨ b = L) w6 w'' → w''.cell? ⟨bd, 0, none⟩ = some (.pointer (some ⟨g, 0, none⟩)) ∧ w''.cell? ⟨bx, 0, none⟩ = some (.pointer (some ⟨lb, 0, none⟩)) ∧ w''.cell? ⟨bq, 0, none⟩ = some (.pointer (some ⟨L, 0, none⟩)) ∧ w''.cell? ⟨wr.heap.size, 2, none⟩ = some (.slice Al nl cl)) := Lib.hid fun w'' f => by
              have h1 := (H6.out.2.1.d.keep f hn1).cell 0
              have h2 := (H6.out.2.1.x.keep f hn4).cell 0
              have h3 := (H6.out.2.1.q.keep f hn3).cell 0
              have h4 := (H6.out.2.2.1.keep f hn5).cell 2
              simp only [List.getElem?_toArray, List.getElem?_cons_zero, List.getElem?_cons_succ] at h1 h2 h3 h4
              exact ⟨h1, h2, h3, h4⟩
            obtain ⟨r, hrr⟩ : ∃ r, r = x.ls.map Leaf.chg := ⟨_, rfl⟩
            have hr5 : ∀ y ∈ r, y.p.length = 512 := fun y hy => by
              rw [hrr] at hy
              obtain ⟨l, _, rfl⟩ := List.mem_map.1 hy
              exact pageOf_len _
            have HR : Hid (∀ w'', Fr (fun _ => False) w6 w'' → Calls Tryz.prog 29 #[.slice Al nl cl] w'' fun e w' => ∃ v', e = .returned v' ∧ w'.ownsRow w''.heap.size 120 513 v' r.length (recC r) ∧ Fr (fun _ => False) w'' w') := Lib.hid fun w'' f => by
              rw [hrr]
              rw [HXX.out.2.2.2.2.1]
              exact record_any (by rw [← HXX.out.2.2.2.2.1]; exact HXX.out.1.old (Nat.le_refl _) ((H6.out.1.trans f (fun _ _ q => q)).mono (fun _ _ q => q.elim))) (by have := HXX.out.2.2.2.1.1; omega)
            have HL := Lib.hid (And.intro hlf (And.intro hlg (And.intro hbl (And.intro hrc (And.intro hr5 (And.intro hBl (And.intro hBL (And.intro hn1 (And.intro hn2 (And.intro hn3 hn4))))))))))
            clear hno hn1 hn2 hn3 hn4 hn5 hrr hr5 hlf hlg hbl hrc hBl hBL
            go_upto_region 22 with fail
            rw [← HW6.out]
            refine wp_region_held_drew (S := fun w' => Fr (fun b => P b ∨ b = lb ∨ b = L) w6 w') (by kernel_rfl) ((Fr.refl _ _).drew) (fun hS0 => ?_)
            refine anyH_take 0 85 (.pointer (some ⟨g, 0, none⟩)) rfl rfl (by kernel_rfl) (by kernel_rfl) (by kernel_rfl) (fun _ _ _ h => h) (.inl ⟨by rfl, fun w'' hS => by have q0 := (HC.out w'' hS).1; go_simp⟩) hS0 ?_
            (simp only [List.setIfInBounds_toArray, List.set_cons_zero, List.set_cons_succ])
            refine anyH_take 1 86 (.pointer (some ⟨lb, 0, none⟩)) rfl rfl (by kernel_rfl) (by kernel_rfl) (by kernel_rfl) (fun _ _ _ h => h) (.inl ⟨by rfl, fun w'' hS => by have q0 := (HC.out w'' hS).2.1; go_simp⟩) hS0 ?_
            (simp only [List.setIfInBounds_toArray, List.set_cons_zero, List.set_cons_succ])
            refine anyH_take 2 87 (.pointer (some ⟨L, 0, none⟩)) rfl rfl (by kernel_rfl) (by kernel_rfl) (by kernel_rfl) (fun _ _ _ h => h) (.inl ⟨by rfl, fun w'' hS => by have q0 := (HC.out w'' hS).2.2.1; go_simp⟩) hS0 ?_
            (simp only [List.setIfInBounds_toArray, List.set_cons_zero, List.set_cons_succ])
            refine anyH_take 3 88 (.pointer (some ⟨wr.heap.size, 2, none⟩)) rfl rfl (by kernel_rfl) (by kernel_rfl) (by kernel_rfl) (fun _ _ _ h => h) (.inl ⟨by rfl, fun w'' hS => by go_simp⟩) hS0 ?_
            (simp only [List.setIfInBounds_toArray, List.set_cons_zero, List.set_cons_succ])
            refine anyH_take 4 89 (.slice Al nl cl) rfl rfl (by kernel_rfl) (by kernel_rfl) (by kernel_rfl) (fun _ _ _ h => h) (.inl ⟨by rfl, fun w'' hS => by have q0 := (HC.out w'' hS).2.2.2; go_simp⟩) hS0 ?_
            (simp only [List.setIfInBounds_toArray, List.set_cons_zero, List.set_cons_succ])
            refine anyH_enter 5 90 (f := 29) (args := #[.slice Al nl cl]) (by kernel_rfl) rfl rfl (by rfl) (by go_simp) ?_
            refine (HR.out _ ((Fr.refl _ w6).drew)).mono ?_
            rintro en w7 ⟨v7, rfl, hown, f7⟩
            have fz : Fr (fun _ => False) w6 w7 := Fr.trans ((Fr.refl _ w6).drew) f7 (fun _ _ q => q)
            refine ⟨_, rfl, fz.mono (fun _ _ q => q.elim), ?_⟩
            (simp only [List.setIfInBounds_toArray, List.set_cons_zero, List.set_cons_succ])
            obtain ⟨A7, c7, hv7, _⟩ := own_slice hown
            have hrv := rcV_of_own hown HL.out.2.2.2.2.1
            refine anyH_enter 6 91 (f := 28) (args := #[.pointer (some ⟨g, 0, none⟩), .pointer (some ⟨lb, 0, none⟩), .pointer (some ⟨L, 0, none⟩), v7]) (by kernel_rfl) rfl rfl (by rfl) (by go_simp) ?_
            refine (commits_any (H6.out.2.2.2.1.keep0 fz) HL.out.1 (HL.out.2.1.keep fz (fun q => q)) (HL.out.2.2.1.keep fz (fun q => q)) (HL.out.2.2.2.1.new fz) hrv (fun b hb => own_blk hown hb) h200 (by have h1 := HL.out.1.cK; have h2 := HXX.out.2.2.2.2.2.2.1; omega)).mono ?_
            rintro en w8 ⟨rfl, hcm⟩
            have hS2 : Fr (fun b => P b ∨ b = lb ∨ b = L) w6 w8 := (fz.mono (fun _ _ q => q.elim)).trans hcm.2 (fun _ _ q => q)
            have hS0 := hS2
            refine ⟨_, rfl, hS2, ?_⟩
            (simp only [List.setIfInBounds_toArray, List.set_cons_zero, List.set_cons_succ])
            refine anyH_take 7 92 (.bool false) rfl rfl (by kernel_rfl) (by kernel_rfl) (by kernel_rfl) (fun _ _ _ h => h) (.inl ⟨by rfl, fun w'' hS => by go_simp⟩) hS0 ?_
            (simp only [List.setIfInBounds_toArray, List.set_cons_zero, List.set_cons_succ])
            refine wpAnyH_done (by kernel_rfl) ?_ _
            have HFZ := Lib.hid fz
            have HQ := Lib.hid hcm
            clear hS0 fz hcm hS2 hown hrv hv7 f7 kx6 kd6 kq6 ks6 kt1 kt2 kt3
            go_wp2_with fail
            obtain ⟨P9, d9, hd9, hl9', hst9⟩ := HQ.out.1
            have hcm2 := HQ.out.2
            have hE9 := (H6.out.2.1.new HFZ.out).keep hcm2 HL.out.2.2.2.2.2.2.2.1 HL.out.2.2.2.2.2.2.2.2.1 HL.out.2.2.2.2.2.2.2.2.2.1 HL.out.2.2.2.2.2.2.2.2.2.2
            have hpl9 : PlS w8 w.heap.size bd bs bq bx g z (2 + (k + 1)) (z + 5) := by
              refine ⟨P9, d9, some ⟨lb, 0, none⟩, some ⟨L, 0, none⟩, hE9, hd9, by rw [hl9']; exact H0.out.2.2.1, ?_⟩
              rcases hst9 with ⟨e', q', A', cp', k1, k2, k3, k4⟩ | ⟨k1, us, m, k2⟩
              · exact .inl ⟨lb, L, c, s, e', q', A', cp', rfl, rfl, HL.out.2.2.2.2.2.1, HL.out.2.2.2.2.2.2.1, ⟨k1.ri, k1.nw, by have := k1.cK; omega⟩, k2, k3, k4⟩
              · exact .inr ⟨k1.mono (by omega), .inr ⟨lb, c, s, us, m, rfl, k2⟩⟩
            have hf9 : Fr (fun b => w.heap.size ≤ b) w w8 := (H6.out.2.2.2.2.2.trans HFZ.out (fun _ _ q => q.elim)).trans hcm2 (fun b hb y => by
              rcases y with y | y | y
              · exact (H6.out.2.2.2.1.1.2 b y).1
              · rw [y]; exact HL.out.2.2.2.2.2.1
              · rw [y]; exact HL.out.2.2.2.2.2.2.1)
            refine ⟨⟨k + 1, by norm_cast, by omega, Lib.hid hpl9, Lib.hid hf9⟩, ?_⟩
            simp only [intOf]
            omega
          · clear hde
            go_wp2_with fail
            rw [← HW6.out]
            refine ⟨⟨k + 1, by norm_cast, by omega, Lib.hid (HP.out.new H6.out.1 (by omega)), Lib.hid (HF.out.trans H6.out.1 (fun _ _ q => q.elim))⟩, ?_⟩
            simp only [intOf]
            omega
          · have HC : Hid (∀ w'', Fr (fun _ => False) w6 w'' → w''.cell? ⟨bd, 0, none⟩ = some (.pointer (some ⟨g, 0, none⟩)) ∧ w''.cell? ⟨bx, 0, none⟩ = some (.pointer (some ⟨lb, 0, none⟩)) ∧ w''.cell? ⟨bq, 0, none⟩ = some (.pointer qo) ∧ w''.cell? ⟨wr.heap.size, 2, none⟩ = some (.slice Al nl cl)) := Lib.hid fun w'' f => by
              have h1 := (H6.out.2.1.d.keep f (fun q => q)).cell 0
              have h2 := (H6.out.2.1.x.keep f (fun q => q)).cell 0
              have h3 := (H6.out.2.1.q.keep f (fun q => q)).cell 0
              have h4 := (H6.out.2.2.1.keep f (fun q => q)).cell 2
              simp only [List.getElem?_toArray, List.getElem?_cons_zero, List.getElem?_cons_succ] at h1 h2 h3 h4
              exact ⟨h1, h2, h3, h4⟩
            obtain ⟨r, hrr⟩ : ∃ r, r = x.ls.map Leaf.chg := ⟨_, rfl⟩
            have HR : Hid (∀ w'', Fr (fun _ => False) w6 w'' → Calls Tryz.prog 29 #[.slice Al nl cl] w'' fun e w' => ∃ v', e = .returned v' ∧ w'.ownsRow w''.heap.size 120 513 v' r.length (recC r) ∧ Fr (fun _ => False) w'' w') := Lib.hid fun w'' f => by
              rw [hrr, HXX.out.2.2.2.2.1]
              exact record_any (by rw [← HXX.out.2.2.2.2.1]; exact HXX.out.1.old (Nat.le_refl _) ((H6.out.1.trans f (fun _ _ q => q)).mono (fun _ _ q => q.elim))) (by have := HXX.out.2.2.2.1.1; omega)
            clear hrr
            have HL := Lib.hid hlg
            clear hlg hde
            go_upto_region 22 with fail
            rw [← HW6.out]
            refine wp_region_held_drew (S := fun w' => Fr (fun _ => False) w6 w') (by kernel_rfl) ((Fr.refl _ _).drew) (fun hS0 => ?_)
            refine anyH_take 0 85 (.pointer (some ⟨g, 0, none⟩)) rfl rfl (by kernel_rfl) (by kernel_rfl) (by kernel_rfl) (fun _ _ _ h => h) (.inl ⟨by rfl, fun w'' hS => by have q0 := (HC.out w'' hS).1; go_simp⟩) hS0 ?_
            (simp only [List.setIfInBounds_toArray, List.set_cons_zero, List.set_cons_succ])
            refine anyH_take 1 86 (.pointer (some ⟨lb, 0, none⟩)) rfl rfl (by kernel_rfl) (by kernel_rfl) (by kernel_rfl) (fun _ _ _ h => h) (.inl ⟨by rfl, fun w'' hS => by have q0 := (HC.out w'' hS).2.1; go_simp⟩) hS0 ?_
            (simp only [List.setIfInBounds_toArray, List.set_cons_zero, List.set_cons_succ])
            refine anyH_take 2 87 (.pointer qo) rfl rfl (by kernel_rfl) (by kernel_rfl) (by kernel_rfl) (fun _ _ _ h => h) (.inl ⟨by rfl, fun w'' hS => by have q0 := (HC.out w'' hS).2.2.1; go_simp⟩) hS0 ?_
            (simp only [List.setIfInBounds_toArray, List.set_cons_zero, List.set_cons_succ])
            refine anyH_take 3 88 (.pointer (some ⟨wr.heap.size, 2, none⟩)) rfl rfl (by kernel_rfl) (by kernel_rfl) (by kernel_rfl) (fun _ _ _ h => h) (.inl ⟨by rfl, fun w'' hS => by go_simp⟩) hS0 ?_
            (simp only [List.setIfInBounds_toArray, List.set_cons_zero, List.set_cons_succ])
            refine anyH_take 4 89 (.slice Al nl cl) rfl rfl (by kernel_rfl) (by kernel_rfl) (by kernel_rfl) (fun _ _ _ h => h) (.inl ⟨by rfl, fun w'' hS => by have q0 := (HC.out w'' hS).2.2.2; go_simp⟩) hS0 ?_
            (simp only [List.setIfInBounds_toArray, List.set_cons_zero, List.set_cons_succ])
            refine anyH_enter 5 90 (f := 29) (args := #[.slice Al nl cl]) (by kernel_rfl) rfl rfl (by rfl) (by go_simp) ?_
            refine (HR.out _ ((Fr.refl _ w6).drew)).mono ?_
            rintro en w7 ⟨v7, rfl, hown, f7⟩
            have fz : Fr (fun _ => False) w6 w7 := Fr.trans ((Fr.refl _ w6).drew) f7 (fun _ _ q => q)
            refine ⟨_, rfl, fz, ?_⟩
            (simp only [List.setIfInBounds_toArray, List.set_cons_zero, List.set_cons_succ])
            obtain ⟨A7, c7, hv7, _⟩ := own_slice hown
            have hcd : Calls Tryz.prog 28 #[.pointer (some ⟨g, 0, none⟩), .pointer (some ⟨lb, 0, none⟩), .pointer qo, v7] w7 fun en w' => en = .returned (.bool true) ∧ Fr (fun _ => False) w7 w' := by
              rw [hv7]
              exact commits_dead (H6.out.2.2.2.1.keep0 fz).1 (HL.out.keep fz (fun q => q))
            refine anyH_enter 6 91 (f := 28) (args := #[.pointer (some ⟨g, 0, none⟩), .pointer (some ⟨lb, 0, none⟩), .pointer qo, v7]) (by kernel_rfl) rfl rfl (by rfl) (by go_simp) ?_
            refine hcd.mono ?_
            rintro en w8 ⟨rfl, f8⟩
            have hS0 : Fr (fun _ => False) w6 w8 := fz.trans f8 (fun _ _ q => q)
            refine ⟨_, rfl, hS0, ?_⟩
            (simp only [List.setIfInBounds_toArray, List.set_cons_zero, List.set_cons_succ])
            refine anyH_take 7 92 (.bool false) rfl rfl (by kernel_rfl) (by kernel_rfl) (by kernel_rfl) (fun _ _ _ h => h) (.inl ⟨by rfl, fun w'' hS => by go_simp⟩) hS0 ?_
            (simp only [List.setIfInBounds_toArray, List.set_cons_zero, List.set_cons_succ])
            refine wpAnyH_done (by kernel_rfl) ?_ _
            have HFZ := Lib.hid hS0
            clear hS0 hown f7 f8 fz hv7 hcd kx6 kd6 kq6 ks6 kt1 kt2 kt3
            go_wp2_with fail
            refine ⟨⟨k + 1, by norm_cast, by omega, Lib.hid (HP.out.new (H6.out.1.trans HFZ.out (fun _ _ q => q)) (by omega)), Lib.hid (HF.out.trans (H6.out.1.trans HFZ.out (fun _ _ q => q)) (fun _ _ q => q.elim))⟩, ?_⟩
            simp only [intOf]
            omega
        by_cases k2 : kk = 2
        · subst k2
          rcases H6.out.2.2.2.2.1 with ⟨lb, L, c, s, e, q, A1, cp1, rfl, rfl, hBl, hBL, hlf, hlg, hbl, hrc⟩ | ⟨hde, rfl | ⟨lb, c, s, us, m, rfl, hlg⟩⟩
          · have hcm : c < maxC := by have h1 := hlf.cK; have h2 := HXX.out.2.2.2.2.2.2.1; simp only [maxC]; omega
            have HTR := Lib.hid (rtrunc_any H6.out.2.2.2.1 hlf.ri hlg hcm)
            have hno : ∀ b t cs, Blk w6 b t cs → t ≠ 74 → t ≠ 45 → t ≠ 84 → ¬ (P b ∨ b = lb) := fun b t cs hb h1 h2 h3 x => by
              rcases x with x | x
              · rcases H6.out.2.2.2.1.2 b t cs x hb with y | y
                · exact h1 y
                · exact h2 y
              · rw [x] at hb
                exact h3 (blk_type hb hlg)
            have hn1 := hno _ _ _ H6.out.2.1.d (by decide) (by decide) (by decide)
            have hn2 := hno _ _ _ H6.out.2.1.s (by decide) (by decide) (by decide)
            have hn3 := hno _ _ _ H6.out.2.1.q (by decide) (by decide) (by decide)
            have hn4 := hno _ _ _ H6.out.2.1.x (by decide) (by decide) (by decide)
            have HL := Lib.hid (And.intro hlf (And.intro hlg (And.intro hcm (And.intro hBl (And.intro hn1 (And.intro hn2 (And.intro hn3 hn4)))))))
            have HBL := Lib.hid (And.intro hbl (hno _ _ _ hbl (by decide) (by decide) (by decide)))
            clear hno hn1 hn2 hn3 hn4 hlf hlg hbl hrc hBl hBL hcm
            go_wp2_with fail
            rw [← HW6.out]
            clear kx6 kd6 kq6 ks6 kt1 kt2 kt3
            refine (ldead_any HL.out.2.1).mono ?_
            rintro en w7 ⟨rfl, hw⟩
            obtain rfl : w6 = w7 := hw.symm
            have kx7 := H6.out.2.1.x.cell 0
            simp only [List.getElem?_toArray, List.getElem?_cons_zero] at kx7
            go_wp2_with fail
            refine HTR.out.mono ?_
            rintro en w7 ⟨o1, o2, ⟨P7, hd7, hp7⟩, f7⟩
            have hE7 := H6.out.2.1.keep f7 HL.out.2.2.2.2.1 HL.out.2.2.2.2.2.1 HL.out.2.2.2.2.2.2.1 HL.out.2.2.2.2.2.2.2
            have hf7 : Fr (fun b => w.heap.size ≤ b) w w7 := H6.out.2.2.2.2.2.trans f7 (fun b _ y => by
              rcases y with y | y
              · exact (H6.out.2.2.2.1.1.2 b y).1
              · rw [y]; exact HL.out.2.2.2.1)
            have H7 := Lib.hid (And.intro hE7 (And.intro hd7 hf7))
            have HBL7 := Lib.hid (HBL.out.1.keep f7 HBL.out.2)
            have hlen7 : (d.settle 0 [hdS (c + 1) (c + 1)]).rd.length = z + 5 := by rw [settle_len]; exact H0.out.2.2.1
            have kd7 := hE7.d.cell 0
            have kx8 := hE7.x.cell 0
            have kq7 := hE7.q.cell 0
            have ks7 := hE7.s.cell 0
            simp only [List.getElem?_toArray, List.getElem?_cons_zero] at kd7 kx8 kq7 ks7
            clear hd7 hp7 f7 hE7 hf7 HTR kx7
            by_cases ok : d.settles 0 [hdS (c + 1) (c + 1)] = true
            · rw [if_pos ok] at o1 o2
              subst o1
              have hlf7 := LifeS.cut (K := 2 + (k + 1)) HL.out.1.ri HL.out.2.2.1 (by have := HL.out.1.cK; omega) ok
              have h1000 : c ≤ 1000 := by have h1 := HL.out.1.cK; have h2 := HXX.out.2.2.2.2.2.2.1; omega
              obtain ⟨d7, hd7⟩ : ∃ d7, d7 = d.settle 0 [hdS (c + 1) (c + 1)] := ⟨_, rfl⟩
              rw [← hd7] at H7 hlf7 hlen7
              have kL7 : ∀ w'', Fr (fun b => b = bq) w7 w'' → w''.cell? ⟨L, 0, none⟩ = some (.int .u64 (c : Nat)) ∧ w''.cell? ⟨bs, 0, none⟩ = some (.int .i64 (z : Nat)) := fun w'' f => by
                have h1 := (HBL7.out.keep f (fun y => by
                  have hq := HBL7.out
                  rw [y] at hq
                  exact absurd (blk_type hq H7.out.1.q) (by decide))).cell 0
                have h2 := (H7.out.1.s.keep f (fun y => by
                  have hq := H7.out.1.s
                  rw [y] at hq
                  exact absurd (blk_type hq H7.out.1.q) (by decide))).cell 0
                simp only [List.getElem?_toArray, List.getElem?_cons_zero] at h1 h2
                exact ⟨h1, h2⟩
              have HK7 := Lib.hid kL7
              have kq7d : w7.drew.cell? ⟨bq, 0, none⟩ = some (.pointer (some ⟨L, 0, none⟩)) := kq7
              have zq7 : w7.drew.frozen? ⟨bq, 0, none⟩ = false := H7.out.1.q.frozen 0
              have hw1 : IntKind.u64.wrap ((c : Int) + 1) = (c : Int) + 1 := by simp [IntKind.wrap, IntKind.signed, IntKind.bits]; omega
              have HLF := Lib.hid (And.intro o2 (And.intro hlf7 hlen7))
              have HKQ := Lib.hid (And.intro kq7d zq7)
              clear o2 hlf7 ok hlen7 kL7 h1000
              go_upto_region 31 with fail
              clear kd7 kx8 kq7 ks7
              have hnbq : ∀ b t cs, Blk w7 b t cs → t ≠ 38 → ¬ b = bq := fun b t cs hb ht y => by
                rw [y] at hb
                exact ht (blk_type hb H7.out.1.q)
              have fwa : Fr (fun _ => False) w7 (w7.drew.alloc (.cells #[.int .u64 ((c : Int) + 1), .int .u64 ((c : Int) + 1), .int .i64 (z : Nat), .slice none 0 0, .int .i64 0] 43)) := ((Fr.refl _ w7).drew).alloc _
              have fwx : Fr (fun b => b = bq) w7 ((w7.drew.alloc (.cells #[.int .u64 ((c : Int) + 1), .int .u64 ((c : Int) + 1), .int .i64 (z : Nat), .slice none 0 0, .int .i64 0] 43)).setCell ⟨bq, 0, none⟩ (.pointer (some ⟨w7.heap.size, 0, none⟩))) := (((Fr.refl (fun b => b = bq) w7).drew).alloc _).setCell (p := ⟨bq, 0, none⟩) (.inl rfl) _
              have fws : Fr (fun b => b = bq) (w7.drew.alloc (.cells #[.int .u64 ((c : Int) + 1), .int .u64 ((c : Int) + 1), .int .i64 (z : Nat), .slice none 0 0, .int .i64 0] 43)) ((w7.drew.alloc (.cells #[.int .u64 ((c : Int) + 1), .int .u64 ((c : Int) + 1), .int .i64 (z : Nat), .slice none 0 0, .int .i64 0] 43)).setCell ⟨bq, 0, none⟩ (.pointer (some ⟨w7.heap.size, 0, none⟩))) := (Fr.refl (fun b => b = bq) (w7.drew.alloc (.cells #[.int .u64 ((c : Int) + 1), .int .u64 ((c : Int) + 1), .int .i64 (z : Nat), .slice none 0 0, .int .i64 0] 43))).setCell (p := ⟨bq, 0, none⟩) (.inl rfl) _
              have hqa := H7.out.1.q.keep fwa (fun q => q)
              have hba := Blk.new w7.drew 43 #[.int .u64 ((c : Int) + 1), .int .u64 ((c : Int) + 1), .int .i64 (z : Nat), .slice none 0 0, .int .i64 0]
              have hbx : Blk ((w7.drew.alloc (.cells #[.int .u64 ((c : Int) + 1), .int .u64 ((c : Int) + 1), .int .i64 (z : Nat), .slice none 0 0, .int .i64 0] 43)).setCell ⟨bq, 0, none⟩ (.pointer (some ⟨w7.heap.size, 0, none⟩))) w7.drew.heap.size 43 (rlC (c + 1) (c + 1) (z : Int) 0 (.slice none 0 0)) := hba.keep fws (fun y => by
                have h1 := H7.out.1.q.lt
                have h2 : w7.drew.heap.size = w7.heap.size := rfl
                omega)
              have hEx : EnvW ((w7.drew.alloc (.cells #[.int .u64 ((c : Int) + 1), .int .u64 ((c : Int) + 1), .int .i64 (z : Nat), .slice none 0 0, .int .i64 0] 43)).setCell ⟨bq, 0, none⟩ (.pointer (some ⟨w7.heap.size, 0, none⟩))) w.heap.size bd bs bq bx g z (some ⟨lb, 0, none⟩) (some ⟨w7.heap.size, 0, none⟩) := ⟨H7.out.1.d.keep fwx (hnbq _ _ _ H7.out.1.d (by decide)), H7.out.1.s.keep fwx (hnbq _ _ _ H7.out.1.s (by decide)), hqa.set_ 0 _, H7.out.1.x.keep fwx (hnbq _ _ _ H7.out.1.x (by decide)), H7.out.1.ld, H7.out.1.ls, H7.out.1.lq, H7.out.1.lx⟩
              have hdx := H7.out.2.1.keep fwx (fun b hp y => (H7.out.1.apart H7.out.2.1).2.2.1 (y ▸ hp))
              have hlx := HLF.out.1.keep fwx (hnbq _ _ _ HLF.out.1 (by decide))
              have hfx : Fr (fun b => w.heap.size ≤ b) w ((w7.drew.alloc (.cells #[.int .u64 ((c : Int) + 1), .int .u64 ((c : Int) + 1), .int .i64 (z : Nat), .slice none 0 0, .int .i64 0] 43)).setCell ⟨bq, 0, none⟩ (.pointer (some ⟨w7.heap.size, 0, none⟩))) := H7.out.2.2.trans fwx (fun b _ y => by
                rw [y]
                exact H7.out.1.lq)
              have hplx : PlS ((w7.drew.alloc (.cells #[.int .u64 ((c : Int) + 1), .int .u64 ((c : Int) + 1), .int .i64 (z : Nat), .slice none 0 0, .int .i64 0] 43)).setCell ⟨bq, 0, none⟩ (.pointer (some ⟨w7.heap.size, 0, none⟩))) w.heap.size bd bs bq bx g z (2 + (k + 1)) (z + 5) := ⟨P7, d7, _, _, hEx, hdx, HLF.out.2.2, .inl ⟨lb, w7.drew.heap.size, c + 1, c + 1, 0, [], none, 0, rfl, rfl, HL.out.2.2.2.1, H7.out.2.2.size, HLF.out.2.1, hlx, hbx, RcsV.nil _ _⟩⟩
              have HX31 := Lib.hid (And.intro hEx (And.intro hdx (And.intro hbx (And.intro hlx (And.intro hfx hplx)))))
              have kqa := hqa.cell 0
              have zqa := hqa.frozen 0
              simp only [List.getElem?_toArray, List.getElem?_cons_zero] at kqa
              have kqa2 : (w7.alloc (.cells #[.int .u64 ((c : Int) + 1), .int .u64 ((c : Int) + 1), .int .i64 (z : Nat), .slice none 0 0, .int .i64 0] 43)).cell? ⟨bq, 0, none⟩ = some (.pointer (some ⟨L, 0, none⟩)) := kqa
              have zqa2 : (w7.alloc (.cells #[.int .u64 ((c : Int) + 1), .int .u64 ((c : Int) + 1), .int .i64 (z : Nat), .slice none 0 0, .int .i64 0] 43)).frozen? ⟨bq, 0, none⟩ = false := zqa
              have HKA := Lib.hid (And.intro kqa2 zqa2)
              clear hnbq fwa fwx fws hqa hba hbx hEx hdx hlx hfx hplx kqa zqa kqa2 zqa2
              refine wp_region_held_drew (S := fun w' => Fr (fun b => b = bq) w7 w') (by kernel_rfl) ((Fr.refl _ _).drew) (fun hS0 => ?_)
              refine anyH_take 10 129 (.int .i64 (z : Nat)) rfl rfl (by kernel_rfl) (by kernel_rfl) (by kernel_rfl) (fun _ _ _ h => h) (.inl ⟨by rfl, fun w'' hS => by have q0 := (HK7.out w'' hS).2; go_simp⟩) hS0 ?_
              (simp only [List.setIfInBounds_toArray, List.set_cons_zero, List.set_cons_succ])
              refine anyH_alt 0 5 (by kernel_rfl) ?_ ?_
              · refine wpOp_value 119 (.pointer (some ⟨L, 0, none⟩)) rfl rfl (by rfl) (by have q0 := HKQ.out.1; go_simp) ⟨hS0, ?_⟩
                (simp only [List.setIfInBounds_toArray, List.set_cons_zero, List.set_cons_succ])
                refine anyH_take 1 120 (.pointer (some ⟨L, 0, none⟩)) rfl rfl (by kernel_rfl) (by kernel_rfl) (by kernel_rfl) (fun _ _ _ h => h) (.inl ⟨by rfl, fun w'' hS => by go_simp⟩) hS0 ?_
                (simp only [List.setIfInBounds_toArray, List.set_cons_zero, List.set_cons_succ])
                refine anyH_take 2 121 (.pointer (some ⟨L, 0, none⟩)) rfl rfl (by kernel_rfl) (by kernel_rfl) (by kernel_rfl) (fun _ _ _ h => h) (.inl ⟨by rfl, fun w'' hS => by go_simp⟩) hS0 ?_
                (simp only [List.setIfInBounds_toArray, List.set_cons_zero, List.set_cons_succ])
                refine anyH_take 3 122 (.int .u64 (c : Nat)) rfl rfl (by kernel_rfl) (by kernel_rfl) (by kernel_rfl) (fun _ _ _ h => h) (.inl ⟨by rfl, fun w'' hS => by have q0 := (HK7.out w'' hS).1; go_simp⟩) hS0 ?_
                (simp only [List.setIfInBounds_toArray, List.set_cons_zero, List.set_cons_succ])
                refine anyH_take 4 123 (.int .u64 ((c : Int) + 1)) rfl rfl (by kernel_rfl) (by kernel_rfl) (by kernel_rfl) (fun _ _ _ h => h) (.inl ⟨by rfl, fun w'' hS => by go_simp⟩) hS0 ?_
                (simp only [List.setIfInBounds_toArray, List.set_cons_zero, List.set_cons_succ])
                refine anyH_value 5 124 (.pointer (some ⟨L, 0, none⟩)) w7.drew (by kernel_rfl) rfl rfl (by rfl) (by have q0 := HKQ.out.1; go_simp) hS0 ?_
                (simp only [List.setIfInBounds_toArray, List.set_cons_zero, List.set_cons_succ])
                refine anyH_take 6 125 (.pointer (some ⟨L, 0, none⟩)) rfl rfl (by kernel_rfl) (by kernel_rfl) (by kernel_rfl) (fun _ _ _ h => h) (.inl ⟨by rfl, fun w'' hS => by go_simp⟩) hS0 ?_
                (simp only [List.setIfInBounds_toArray, List.set_cons_zero, List.set_cons_succ])
                refine anyH_take 7 126 (.pointer (some ⟨L, 0, none⟩)) rfl rfl (by kernel_rfl) (by kernel_rfl) (by kernel_rfl) (fun _ _ _ h => h) (.inl ⟨by rfl, fun w'' hS => by go_simp⟩) hS0 ?_
                (simp only [List.setIfInBounds_toArray, List.set_cons_zero, List.set_cons_succ])
                refine anyH_take 8 127 (.int .u64 (c : Nat)) rfl rfl (by kernel_rfl) (by kernel_rfl) (by kernel_rfl) (fun _ _ _ h => h) (.inl ⟨by rfl, fun w'' hS => by have q0 := (HK7.out w'' hS).1; go_simp⟩) hS0 ?_
                (simp only [List.setIfInBounds_toArray, List.set_cons_zero, List.set_cons_succ])
                refine anyH_take 9 128 (.int .u64 ((c : Int) + 1)) rfl rfl (by kernel_rfl) (by kernel_rfl) (by kernel_rfl) (fun _ _ _ h => h) (.inl ⟨by rfl, fun w'' hS => by go_simp⟩) hS0 ?_
                (simp only [List.setIfInBounds_toArray, List.set_cons_zero, List.set_cons_succ])
                refine anyH_take 11 130 (.agg #[.int .u64 ((c : Int) + 1), .int .u64 ((c : Int) + 1), .int .i64 (z : Nat), .slice none 0 0, .int .i64 0]) rfl rfl (by kernel_rfl) (by kernel_rfl) (by kernel_rfl) (fun _ _ _ h => h) (.inl ⟨by rfl, fun w'' hS => by have q0 := build_rl2 ((c : Int) + 1) ((c : Int) + 1) (z : Int); go_simp⟩) hS0 ?_
                (simp only [List.setIfInBounds_toArray, List.set_cons_zero, List.set_cons_succ])
                refine anyH_value 12 131 (.pointer (some ⟨w7.heap.size, 0, none⟩)) (w7.drew.alloc (.cells #[.int .u64 ((c : Int) + 1), .int .u64 ((c : Int) + 1), .int .i64 (z : Nat), .slice none 0 0, .int .i64 0] 43)) (by kernel_rfl) rfl rfl (by rfl) (by go_simp) (((Fr.refl _ w7).drew).alloc _) ?_
                (simp only [List.setIfInBounds_toArray, List.set_cons_zero, List.set_cons_succ])
                refine anyH_skip 13 ((w7.drew.alloc (.cells #[.int .u64 ((c : Int) + 1), .int .u64 ((c : Int) + 1), .int .i64 (z : Nat), .slice none 0 0, .int .i64 0] 43)).setCell ⟨bq, 0, none⟩ (.pointer (some ⟨w7.heap.size, 0, none⟩))) (by kernel_rfl) rfl rfl (by rfl) (by have q0 := HKA.out.1; have q1 := HKA.out.2; go_simp) ((((Fr.refl (fun b => b = bq) w7).drew).alloc _).setCell (p := ⟨bq, 0, none⟩) (.inl rfl) _) ?_
                refine wpAnyH_done (by kernel_rfl) ?_ _
                obtain ⟨WX, hWX⟩ : ∃ WX, WX = ((w7.drew.alloc (.cells #[.int .u64 ((c : Int) + 1), .int .u64 ((c : Int) + 1), .int .i64 (z : Nat), .slice none 0 0, .int .i64 0] 43)).setCell ⟨bq, 0, none⟩ (.pointer (some ⟨w7.heap.size, 0, none⟩))) := ⟨_, rfl⟩
                rw [← hWX]
                rw [← hWX] at HX31
                clear hWX hS0 HKA HKQ HK7
                have kdx := HX31.out.1.d.cell 0
                have ksx := HX31.out.1.s.cell 0
                simp only [List.getElem?_toArray, List.getElem?_cons_zero] at kdx ksx
                have HSC := Lib.hid (lsectors_any HX31.out.2.1.1 (n := 1 + z) (by omega) (by rw [HLF.out.2.2]; omega))
                rw [show ((1 + z : Nat) : Int) = 1 + (z : Int) by omega] at HSC
                go_wp2_with fail
                refine HSC.out.mono ?_
                rintro en w8 ⟨b8, c8, rfl, _, j1, j2, hs8, f8⟩
                have htl : (d7.rd.take (1 + z)).length = 1 + z := by rw [List.length_take, HLF.out.2.2]; omega
                have hgd : (d7.rd.take (1 + z)).getD 0 [] = d7.head := by
                  unfold DS.head
                  rw [List.getD_eq_getElem?_getD, List.getElem?_take, if_pos (by omega), ← List.getD_eq_getElem?_getD]
                have HSY := Lib.hid (rsays_any (hs8.secV htl.symm (by rw [htl]; exact j1) j2) (by rw [htl]; omega) (by rw [htl]; omega))
                have HG := Lib.hid (And.intro hgd htl)
                have H8 := Lib.hid f8
                clear hs8 j1 j2 f8 htl hgd HSC kdx ksx
                go_wp2_with fail
                refine HSY.out.mono ?_
                rintro en w9 ⟨_, q2, f9⟩
                rw [HG.out.1, HG.out.2] at q2
                obtain ⟨k1, k2, k3⟩ := HLF.out.2.1.ri.hd.facts
                obtain ⟨L2, rfl, v2, hb2, hl2, hk2⟩ := q2 k1
                have ebd : (d7.rd.take (1 + z)).drop 1 = bodyOf d7 z := by rw [Nat.add_comm 1 z]; rfl
                have hsy := HLF.out.2.1.ri.says.1
                rw [k2, k3, ebd] at hb2 hk2
                rw [hsy] at hk2
                obtain ⟨A2, c2, rfl, _⟩ := RcsK.form hk2
                have f79 : Fr (fun _ => False) WX w9 := H8.out.trans f9 (fun _ _ q => q)
                have HC33 : Hid (∀ w'', Fr (fun _ => False) w9 w'' → w''.cell? ⟨bx, 0, none⟩ = some (.pointer (some ⟨lb, 0, none⟩)) ∧ w''.cell? ⟨bq, 0, none⟩ = some (.pointer (some ⟨w7.heap.size, 0, none⟩)) ∧ w''.cell? ⟨w7.heap.size, 0, none⟩ = some (.int .u64 ((c : Int) + 1)) ∧ w''.cell? ⟨L2, 0, none⟩ = some (.int .u64 ((c : Int) + 1)) ∧ w''.cell? ⟨L2, 3, none⟩ = some (.slice A2 0 c2)) := Lib.hid fun w'' f => by
                  have g := f79.trans f (fun _ _ q => q)
                  have h1 := (HX31.out.1.x.keep g (fun q => q)).cell 0
                  have h2 := (HX31.out.1.q.keep g (fun q => q)).cell 0
                  have h3 := (HX31.out.2.2.1.keep g (fun q => q)).cell 0
                  have h4 := (hb2.keep f (fun q => q)).cell 0
                  have h5 := (hb2.keep f (fun q => q)).cell 3
                  simp only [List.getElem?_toArray, List.getElem?_cons_zero, List.getElem?_cons_succ] at h1 h2 h3 h4 h5
                  exact ⟨h1, h2, h3, h4, h5⟩
                have HLK : Hid (∀ w'', Fr (fun _ => False) w9 w'' → Calls Tryz.prog 27 #[.pointer (some ⟨lb, 0, none⟩), (.pointer (some ⟨w7.heap.size, 0, none⟩))] w'' fun e w' => e = .returned (.bool true) ∧ Fr (fun _ => False) w9 w') := Lib.hid fun w'' f => by
                  have g := f79.trans f (fun _ _ q => q)
                  exact (looks_any (HX31.out.2.2.2.1.keep g (fun q => q)) (HX31.out.2.2.1.keep g (fun q => q)) (Nat.zero_le _) (by omega)).mono fun e w' q => ⟨q.1, f.trans q.2 (fun _ _ q => q)⟩
                have H9 := Lib.hid f79
                clear q2 k1 k2 k3 hb2 hl2 hk2 ebd hsy f79 f9 HSY
                go_upto_region 33 with fail
                refine wp_region_held_drew (S := fun w' => Fr (fun _ => False) w9 w') (by kernel_rfl) ((Fr.refl _ _).drew) (fun hS0 => ?_)
                refine anyH_take 0 140 (.bool false) rfl rfl (by kernel_rfl) (by kernel_rfl) (by kernel_rfl) (fun _ _ _ h => h) (.inl ⟨by rfl, fun w'' hS => by go_simp⟩) hS0 ?_
                (simp only [List.setIfInBounds_toArray, List.set_cons_zero, List.set_cons_succ])
                refine anyH_take 1 141 (.bool false) rfl rfl (by kernel_rfl) (by kernel_rfl) (by kernel_rfl) (fun _ _ _ h => h) (.inl ⟨by rfl, fun w'' hS => by go_simp⟩) hS0 ?_
                (simp only [List.setIfInBounds_toArray, List.set_cons_zero, List.set_cons_succ])
                refine anyH_take 2 142 (.pointer (some ⟨lb, 0, none⟩)) rfl rfl (by kernel_rfl) (by kernel_rfl) (by kernel_rfl) (fun _ _ _ h => h) (.inl ⟨by rfl, fun w'' hS => by have q0 := (HC33.out w'' hS).1; go_simp⟩) hS0 ?_
                (simp only [List.setIfInBounds_toArray, List.set_cons_zero, List.set_cons_succ])
                refine anyH_take 3 143 (.pointer (some ⟨w7.heap.size, 0, none⟩)) rfl rfl (by kernel_rfl) (by kernel_rfl) (by kernel_rfl) (fun _ _ _ h => h) (.inl ⟨by rfl, fun w'' hS => by have q0 := (HC33.out w'' hS).2.1; go_simp⟩) hS0 ?_
                (simp only [List.setIfInBounds_toArray, List.set_cons_zero, List.set_cons_succ])
                refine anyH_one 4 144 (.bool true) (by kernel_rfl) (tame_call 144 rfl rfl (by rfl) (fun w'' hS => by go_simp) (fun w'' hS => HLK.out w'' hS)) hS0 (fun wq0 hS0 => ?_)
                (simp only [List.setIfInBounds_toArray, List.set_cons_zero, List.set_cons_succ])
                refine anyH_take 5 145 (.bool false) rfl rfl (by kernel_rfl) (by kernel_rfl) (by kernel_rfl) (fun _ _ _ h => h) (.inl ⟨by rfl, fun w'' hS => by go_simp⟩) hS0 ?_
                (simp only [List.setIfInBounds_toArray, List.set_cons_zero, List.set_cons_succ])
                refine anyH_take 6 146 (.bool false) rfl rfl (by kernel_rfl) (by kernel_rfl) (by kernel_rfl) (fun _ _ _ h => h) (.inl ⟨by rfl, fun w'' hS => by go_simp⟩) hS0 ?_
                (simp only [List.setIfInBounds_toArray, List.set_cons_zero, List.set_cons_succ])
                refine anyH_take 7 147 (.bool false) rfl rfl (by kernel_rfl) (by kernel_rfl) (by kernel_rfl) (fun _ _ _ h => h) (.inl ⟨by rfl, fun w'' hS => by go_simp⟩) hS0 ?_
                (simp only [List.setIfInBounds_toArray, List.set_cons_zero, List.set_cons_succ])
                refine anyH_take 8 148 (.pointer (some ⟨L2, 0, none⟩)) rfl rfl (by kernel_rfl) (by kernel_rfl) (by kernel_rfl) (fun _ _ _ h => h) (.inl ⟨by rfl, fun w'' hS => by go_simp⟩) hS0 ?_
                (simp only [List.setIfInBounds_toArray, List.set_cons_zero, List.set_cons_succ])
                refine anyH_take 9 149 (.bool false) rfl rfl (by kernel_rfl) (by kernel_rfl) (by kernel_rfl) (fun _ _ _ h => h) (.inl ⟨by rfl, fun w'' hS => by go_simp⟩) hS0 ?_
                (simp only [List.setIfInBounds_toArray, List.set_cons_zero, List.set_cons_succ])
                refine anyH_take 10 150 (.bool false) rfl rfl (by kernel_rfl) (by kernel_rfl) (by kernel_rfl) (fun _ _ _ h => h) (.inl ⟨by rfl, fun w'' hS => by go_simp⟩) hS0 ?_
                (simp only [List.setIfInBounds_toArray, List.set_cons_zero, List.set_cons_succ])
                refine anyH_take 11 151 (.bool false) rfl rfl (by kernel_rfl) (by kernel_rfl) (by kernel_rfl) (fun _ _ _ h => h) (.inl ⟨by rfl, fun w'' hS => by go_simp⟩) hS0 ?_
                (simp only [List.setIfInBounds_toArray, List.set_cons_zero, List.set_cons_succ])
                refine anyH_take 12 152 (.pointer (some ⟨L2, 0, none⟩)) rfl rfl (by kernel_rfl) (by kernel_rfl) (by kernel_rfl) (fun _ _ _ h => h) (.inl ⟨by rfl, fun w'' hS => by go_simp⟩) hS0 ?_
                (simp only [List.setIfInBounds_toArray, List.set_cons_zero, List.set_cons_succ])
                refine anyH_take 13 153 (.pointer (some ⟨L2, 0, none⟩)) rfl rfl (by kernel_rfl) (by kernel_rfl) (by kernel_rfl) (fun _ _ _ h => h) (.inl ⟨by rfl, fun w'' hS => by go_simp⟩) hS0 ?_
                (simp only [List.setIfInBounds_toArray, List.set_cons_zero, List.set_cons_succ])
                refine anyH_take 14 154 (.pointer (some ⟨L2, 3, none⟩)) rfl rfl (by kernel_rfl) (by kernel_rfl) (by kernel_rfl) (fun _ _ _ h => h) (.inl ⟨by rfl, fun w'' hS => by go_simp⟩) hS0 ?_
                (simp only [List.setIfInBounds_toArray, List.set_cons_zero, List.set_cons_succ])
                refine anyH_take 15 155 (.slice A2 0 c2) rfl rfl (by kernel_rfl) (by kernel_rfl) (by kernel_rfl) (fun _ _ _ h => h) (.inl ⟨by rfl, fun w'' hS => by have q0 := (HC33.out w'' hS).2.2.2.2; go_simp⟩) hS0 ?_
                (simp only [List.setIfInBounds_toArray, List.set_cons_zero, List.set_cons_succ])
                refine anyH_take 16 156 (.int .i64 0) rfl rfl (by kernel_rfl) (by kernel_rfl) (by kernel_rfl) (fun _ _ _ h => h) (.inl ⟨by rfl, fun w'' hS => by go_simp⟩) hS0 ?_
                (simp only [List.setIfInBounds_toArray, List.set_cons_zero, List.set_cons_succ])
                refine anyH_take 17 157 (.bool false) rfl rfl (by kernel_rfl) (by kernel_rfl) (by kernel_rfl) (fun _ _ _ h => h) (.inl ⟨by rfl, fun w'' hS => by go_simp⟩) hS0 ?_
                (simp only [List.setIfInBounds_toArray, List.set_cons_zero, List.set_cons_succ])
                refine anyH_take 18 158 (.bool false) rfl rfl (by kernel_rfl) (by kernel_rfl) (by kernel_rfl) (fun _ _ _ h => h) (.inl ⟨by rfl, fun w'' hS => by go_simp⟩) hS0 ?_
                (simp only [List.setIfInBounds_toArray, List.set_cons_zero, List.set_cons_succ])
                refine anyH_take 19 159 (.bool false) rfl rfl (by kernel_rfl) (by kernel_rfl) (by kernel_rfl) (fun _ _ _ h => h) (.inl ⟨by rfl, fun w'' hS => by go_simp⟩) hS0 ?_
                (simp only [List.setIfInBounds_toArray, List.set_cons_zero, List.set_cons_succ])
                refine anyH_take 20 160 (.pointer (some ⟨L2, 0, none⟩)) rfl rfl (by kernel_rfl) (by kernel_rfl) (by kernel_rfl) (fun _ _ _ h => h) (.inl ⟨by rfl, fun w'' hS => by go_simp⟩) hS0 ?_
                (simp only [List.setIfInBounds_toArray, List.set_cons_zero, List.set_cons_succ])
                refine anyH_take 21 161 (.pointer (some ⟨L2, 0, none⟩)) rfl rfl (by kernel_rfl) (by kernel_rfl) (by kernel_rfl) (fun _ _ _ h => h) (.inl ⟨by rfl, fun w'' hS => by go_simp⟩) hS0 ?_
                (simp only [List.setIfInBounds_toArray, List.set_cons_zero, List.set_cons_succ])
                refine anyH_take 22 162 (.pointer (some ⟨L2, 0, none⟩)) rfl rfl (by kernel_rfl) (by kernel_rfl) (by kernel_rfl) (fun _ _ _ h => h) (.inl ⟨by rfl, fun w'' hS => by go_simp⟩) hS0 ?_
                (simp only [List.setIfInBounds_toArray, List.set_cons_zero, List.set_cons_succ])
                refine anyH_take 23 163 (.int .u64 ((c : Int) + 1)) rfl rfl (by kernel_rfl) (by kernel_rfl) (by kernel_rfl) (fun _ _ _ h => h) (.inl ⟨by rfl, fun w'' hS => by have q0 := (HC33.out w'' hS).2.2.2.1; go_simp⟩) hS0 ?_
                (simp only [List.setIfInBounds_toArray, List.set_cons_zero, List.set_cons_succ])
                refine anyH_take 24 164 (.pointer (some ⟨w7.heap.size, 0, none⟩)) rfl rfl (by kernel_rfl) (by kernel_rfl) (by kernel_rfl) (fun _ _ _ h => h) (.inl ⟨by rfl, fun w'' hS => by have q0 := (HC33.out w'' hS).2.1; go_simp⟩) hS0 ?_
                (simp only [List.setIfInBounds_toArray, List.set_cons_zero, List.set_cons_succ])
                refine anyH_take 25 165 (.pointer (some ⟨w7.heap.size, 0, none⟩)) rfl rfl (by kernel_rfl) (by kernel_rfl) (by kernel_rfl) (fun _ _ _ h => h) (.inl ⟨by rfl, fun w'' hS => by go_simp⟩) hS0 ?_
                (simp only [List.setIfInBounds_toArray, List.set_cons_zero, List.set_cons_succ])
                refine anyH_take 26 166 (.pointer (some ⟨w7.heap.size, 0, none⟩)) rfl rfl (by kernel_rfl) (by kernel_rfl) (by kernel_rfl) (fun _ _ _ h => h) (.inl ⟨by rfl, fun w'' hS => by go_simp⟩) hS0 ?_
                (simp only [List.setIfInBounds_toArray, List.set_cons_zero, List.set_cons_succ])
                refine anyH_take 27 167 (.int .u64 ((c : Int) + 1)) rfl rfl (by kernel_rfl) (by kernel_rfl) (by kernel_rfl) (fun _ _ _ h => h) (.inl ⟨by rfl, fun w'' hS => by have q0 := (HC33.out w'' hS).2.2.1; go_simp⟩) hS0 ?_
                (simp only [List.setIfInBounds_toArray, List.set_cons_zero, List.set_cons_succ])
                refine anyH_take 28 168 (.bool false) rfl rfl (by kernel_rfl) (by kernel_rfl) (by kernel_rfl) (fun _ _ _ h => h) (.inl ⟨by rfl, fun w'' hS => by go_simp⟩) hS0 ?_
                (simp only [List.setIfInBounds_toArray, List.set_cons_zero, List.set_cons_succ])
                refine anyH_take 29 169 (.bool false) rfl rfl (by kernel_rfl) (by kernel_rfl) (by kernel_rfl) (fun _ _ _ h => h) (.inl ⟨by rfl, fun w'' hS => by go_simp⟩) hS0 ?_
                (simp only [List.setIfInBounds_toArray, List.set_cons_zero, List.set_cons_succ])
                refine wpAnyH_done (by kernel_rfl) ?_ _
                have HZ9 := Lib.hid (H9.out.trans hS0 (fun _ _ q => q))
                clear hS0
                go_wp2_with fail
                have hpz := HX31.out.2.2.2.2.2.new HZ9.out (K' := 2 + (k + 1)) (Nat.le_refl _)
                have hfz := HX31.out.2.2.2.2.1.trans HZ9.out (fun _ _ q => q.elim)
                refine ⟨⟨k + 1, by norm_cast, by omega, Lib.hid hpz, Lib.hid hfz⟩, ?_⟩
                simp only [intOf]
                omega
              · refine wpOp_value 124 (.pointer (some ⟨L, 0, none⟩)) rfl rfl (by rfl) (by have q0 := HKQ.out.1; go_simp) ⟨hS0, ?_⟩
                (simp only [List.setIfInBounds_toArray, List.set_cons_zero, List.set_cons_succ])
                refine anyH_take 6 125 (.pointer (some ⟨L, 0, none⟩)) rfl rfl (by kernel_rfl) (by kernel_rfl) (by kernel_rfl) (fun _ _ _ h => h) (.inl ⟨by rfl, fun w'' hS => by go_simp⟩) hS0 ?_
                (simp only [List.setIfInBounds_toArray, List.set_cons_zero, List.set_cons_succ])
                refine anyH_take 7 126 (.pointer (some ⟨L, 0, none⟩)) rfl rfl (by kernel_rfl) (by kernel_rfl) (by kernel_rfl) (fun _ _ _ h => h) (.inl ⟨by rfl, fun w'' hS => by go_simp⟩) hS0 ?_
                (simp only [List.setIfInBounds_toArray, List.set_cons_zero, List.set_cons_succ])
                refine anyH_take 8 127 (.int .u64 (c : Nat)) rfl rfl (by kernel_rfl) (by kernel_rfl) (by kernel_rfl) (fun _ _ _ h => h) (.inl ⟨by rfl, fun w'' hS => by have q0 := (HK7.out w'' hS).1; go_simp⟩) hS0 ?_
                (simp only [List.setIfInBounds_toArray, List.set_cons_zero, List.set_cons_succ])
                refine anyH_take 9 128 (.int .u64 ((c : Int) + 1)) rfl rfl (by kernel_rfl) (by kernel_rfl) (by kernel_rfl) (fun _ _ _ h => h) (.inl ⟨by rfl, fun w'' hS => by go_simp⟩) hS0 ?_
                (simp only [List.setIfInBounds_toArray, List.set_cons_zero, List.set_cons_succ])
                refine anyH_value 0 119 (.pointer (some ⟨L, 0, none⟩)) w7.drew (by kernel_rfl) rfl rfl (by rfl) (by have q0 := HKQ.out.1; go_simp) hS0 ?_
                (simp only [List.setIfInBounds_toArray, List.set_cons_zero, List.set_cons_succ])
                refine anyH_take 1 120 (.pointer (some ⟨L, 0, none⟩)) rfl rfl (by kernel_rfl) (by kernel_rfl) (by kernel_rfl) (fun _ _ _ h => h) (.inl ⟨by rfl, fun w'' hS => by go_simp⟩) hS0 ?_
                (simp only [List.setIfInBounds_toArray, List.set_cons_zero, List.set_cons_succ])
                refine anyH_take 2 121 (.pointer (some ⟨L, 0, none⟩)) rfl rfl (by kernel_rfl) (by kernel_rfl) (by kernel_rfl) (fun _ _ _ h => h) (.inl ⟨by rfl, fun w'' hS => by go_simp⟩) hS0 ?_
                (simp only [List.setIfInBounds_toArray, List.set_cons_zero, List.set_cons_succ])
                refine anyH_take 3 122 (.int .u64 (c : Nat)) rfl rfl (by kernel_rfl) (by kernel_rfl) (by kernel_rfl) (fun _ _ _ h => h) (.inl ⟨by rfl, fun w'' hS => by have q0 := (HK7.out w'' hS).1; go_simp⟩) hS0 ?_
                (simp only [List.setIfInBounds_toArray, List.set_cons_zero, List.set_cons_succ])
                refine anyH_take 4 123 (.int .u64 ((c : Int) + 1)) rfl rfl (by kernel_rfl) (by kernel_rfl) (by kernel_rfl) (fun _ _ _ h => h) (.inl ⟨by rfl, fun w'' hS => by go_simp⟩) hS0 ?_
                (simp only [List.setIfInBounds_toArray, List.set_cons_zero, List.set_cons_succ])
                refine anyH_take 11 130 (.agg #[.int .u64 ((c : Int) + 1), .int .u64 ((c : Int) + 1), .int .i64 (z : Nat), .slice none 0 0, .int .i64 0]) rfl rfl (by kernel_rfl) (by kernel_rfl) (by kernel_rfl) (fun _ _ _ h => h) (.inl ⟨by rfl, fun w'' hS => by have q0 := build_rl2 ((c : Int) + 1) ((c : Int) + 1) (z : Int); go_simp⟩) hS0 ?_
                (simp only [List.setIfInBounds_toArray, List.set_cons_zero, List.set_cons_succ])
                refine anyH_value 12 131 (.pointer (some ⟨w7.heap.size, 0, none⟩)) (w7.drew.alloc (.cells #[.int .u64 ((c : Int) + 1), .int .u64 ((c : Int) + 1), .int .i64 (z : Nat), .slice none 0 0, .int .i64 0] 43)) (by kernel_rfl) rfl rfl (by rfl) (by go_simp) (((Fr.refl _ w7).drew).alloc _) ?_
                (simp only [List.setIfInBounds_toArray, List.set_cons_zero, List.set_cons_succ])
                refine anyH_skip 13 ((w7.drew.alloc (.cells #[.int .u64 ((c : Int) + 1), .int .u64 ((c : Int) + 1), .int .i64 (z : Nat), .slice none 0 0, .int .i64 0] 43)).setCell ⟨bq, 0, none⟩ (.pointer (some ⟨w7.heap.size, 0, none⟩))) (by kernel_rfl) rfl rfl (by rfl) (by have q0 := HKA.out.1; have q1 := HKA.out.2; go_simp) ((((Fr.refl (fun b => b = bq) w7).drew).alloc _).setCell (p := ⟨bq, 0, none⟩) (.inl rfl) _) ?_
                refine wpAnyH_done (by kernel_rfl) ?_ _
                obtain ⟨WX, hWX⟩ : ∃ WX, WX = ((w7.drew.alloc (.cells #[.int .u64 ((c : Int) + 1), .int .u64 ((c : Int) + 1), .int .i64 (z : Nat), .slice none 0 0, .int .i64 0] 43)).setCell ⟨bq, 0, none⟩ (.pointer (some ⟨w7.heap.size, 0, none⟩))) := ⟨_, rfl⟩
                rw [← hWX]
                rw [← hWX] at HX31
                clear hWX hS0 HKA HKQ HK7
                have kdx := HX31.out.1.d.cell 0
                have ksx := HX31.out.1.s.cell 0
                simp only [List.getElem?_toArray, List.getElem?_cons_zero] at kdx ksx
                have HSC := Lib.hid (lsectors_any HX31.out.2.1.1 (n := 1 + z) (by omega) (by rw [HLF.out.2.2]; omega))
                rw [show ((1 + z : Nat) : Int) = 1 + (z : Int) by omega] at HSC
                go_wp2_with fail
                refine HSC.out.mono ?_
                rintro en w8 ⟨b8, c8, rfl, _, j1, j2, hs8, f8⟩
                have htl : (d7.rd.take (1 + z)).length = 1 + z := by rw [List.length_take, HLF.out.2.2]; omega
                have hgd : (d7.rd.take (1 + z)).getD 0 [] = d7.head := by
                  unfold DS.head
                  rw [List.getD_eq_getElem?_getD, List.getElem?_take, if_pos (by omega), ← List.getD_eq_getElem?_getD]
                have HSY := Lib.hid (rsays_any (hs8.secV htl.symm (by rw [htl]; exact j1) j2) (by rw [htl]; omega) (by rw [htl]; omega))
                have HG := Lib.hid (And.intro hgd htl)
                have H8 := Lib.hid f8
                clear hs8 j1 j2 f8 htl hgd HSC kdx ksx
                go_wp2_with fail
                refine HSY.out.mono ?_
                rintro en w9 ⟨_, q2, f9⟩
                rw [HG.out.1, HG.out.2] at q2
                obtain ⟨k1, k2, k3⟩ := HLF.out.2.1.ri.hd.facts
                obtain ⟨L2, rfl, v2, hb2, hl2, hk2⟩ := q2 k1
                have ebd : (d7.rd.take (1 + z)).drop 1 = bodyOf d7 z := by rw [Nat.add_comm 1 z]; rfl
                have hsy := HLF.out.2.1.ri.says.1
                rw [k2, k3, ebd] at hb2 hk2
                rw [hsy] at hk2
                obtain ⟨A2, c2, rfl, _⟩ := RcsK.form hk2
                have f79 : Fr (fun _ => False) WX w9 := H8.out.trans f9 (fun _ _ q => q)
                have HC33 : Hid (∀ w'', Fr (fun _ => False) w9 w'' → w''.cell? ⟨bx, 0, none⟩ = some (.pointer (some ⟨lb, 0, none⟩)) ∧ w''.cell? ⟨bq, 0, none⟩ = some (.pointer (some ⟨w7.heap.size, 0, none⟩)) ∧ w''.cell? ⟨w7.heap.size, 0, none⟩ = some (.int .u64 ((c : Int) + 1)) ∧ w''.cell? ⟨L2, 0, none⟩ = some (.int .u64 ((c : Int) + 1)) ∧ w''.cell? ⟨L2, 3, none⟩ = some (.slice A2 0 c2)) := Lib.hid fun w'' f => by
                  have g := f79.trans f (fun _ _ q => q)
                  have h1 := (HX31.out.1.x.keep g (fun q => q)).cell 0
                  have h2 := (HX31.out.1.q.keep g (fun q => q)).cell 0
                  have h3 := (HX31.out.2.2.1.keep g (fun q => q)).cell 0
                  have h4 := (hb2.keep f (fun q => q)).cell 0
                  have h5 := (hb2.keep f (fun q => q)).cell 3
                  simp only [List.getElem?_toArray, List.getElem?_cons_zero, List.getElem?_cons_succ] at h1 h2 h3 h4 h5
                  exact ⟨h1, h2, h3, h4, h5⟩
                have HLK : Hid (∀ w'', Fr (fun _ => False) w9 w'' → Calls Tryz.prog 27 #[.pointer (some ⟨lb, 0, none⟩), (.pointer (some ⟨w7.heap.size, 0, none⟩))] w'' fun e w' => e = .returned (.bool true) ∧ Fr (fun _ => False) w9 w') := Lib.hid fun w'' f => by
                  have g := f79.trans f (fun _ _ q => q)
                  exact (looks_any (HX31.out.2.2.2.1.keep g (fun q => q)) (HX31.out.2.2.1.keep g (fun q => q)) (Nat.zero_le _) (by omega)).mono fun e w' q => ⟨q.1, f.trans q.2 (fun _ _ q => q)⟩
                have H9 := Lib.hid f79
                clear q2 k1 k2 k3 hb2 hl2 hk2 ebd hsy f79 f9 HSY
                go_upto_region 33 with fail
                refine wp_region_held_drew (S := fun w' => Fr (fun _ => False) w9 w') (by kernel_rfl) ((Fr.refl _ _).drew) (fun hS0 => ?_)
                refine anyH_take 0 140 (.bool false) rfl rfl (by kernel_rfl) (by kernel_rfl) (by kernel_rfl) (fun _ _ _ h => h) (.inl ⟨by rfl, fun w'' hS => by go_simp⟩) hS0 ?_
                (simp only [List.setIfInBounds_toArray, List.set_cons_zero, List.set_cons_succ])
                refine anyH_take 1 141 (.bool false) rfl rfl (by kernel_rfl) (by kernel_rfl) (by kernel_rfl) (fun _ _ _ h => h) (.inl ⟨by rfl, fun w'' hS => by go_simp⟩) hS0 ?_
                (simp only [List.setIfInBounds_toArray, List.set_cons_zero, List.set_cons_succ])
                refine anyH_take 2 142 (.pointer (some ⟨lb, 0, none⟩)) rfl rfl (by kernel_rfl) (by kernel_rfl) (by kernel_rfl) (fun _ _ _ h => h) (.inl ⟨by rfl, fun w'' hS => by have q0 := (HC33.out w'' hS).1; go_simp⟩) hS0 ?_
                (simp only [List.setIfInBounds_toArray, List.set_cons_zero, List.set_cons_succ])
                refine anyH_take 3 143 (.pointer (some ⟨w7.heap.size, 0, none⟩)) rfl rfl (by kernel_rfl) (by kernel_rfl) (by kernel_rfl) (fun _ _ _ h => h) (.inl ⟨by rfl, fun w'' hS => by have q0 := (HC33.out w'' hS).2.1; go_simp⟩) hS0 ?_
                (simp only [List.setIfInBounds_toArray, List.set_cons_zero, List.set_cons_succ])
                refine anyH_one 4 144 (.bool true) (by kernel_rfl) (tame_call 144 rfl rfl (by rfl) (fun w'' hS => by go_simp) (fun w'' hS => HLK.out w'' hS)) hS0 (fun wq0 hS0 => ?_)
                (simp only [List.setIfInBounds_toArray, List.set_cons_zero, List.set_cons_succ])
                refine anyH_take 5 145 (.bool false) rfl rfl (by kernel_rfl) (by kernel_rfl) (by kernel_rfl) (fun _ _ _ h => h) (.inl ⟨by rfl, fun w'' hS => by go_simp⟩) hS0 ?_
                (simp only [List.setIfInBounds_toArray, List.set_cons_zero, List.set_cons_succ])
                refine anyH_take 6 146 (.bool false) rfl rfl (by kernel_rfl) (by kernel_rfl) (by kernel_rfl) (fun _ _ _ h => h) (.inl ⟨by rfl, fun w'' hS => by go_simp⟩) hS0 ?_
                (simp only [List.setIfInBounds_toArray, List.set_cons_zero, List.set_cons_succ])
                refine anyH_take 7 147 (.bool false) rfl rfl (by kernel_rfl) (by kernel_rfl) (by kernel_rfl) (fun _ _ _ h => h) (.inl ⟨by rfl, fun w'' hS => by go_simp⟩) hS0 ?_
                (simp only [List.setIfInBounds_toArray, List.set_cons_zero, List.set_cons_succ])
                refine anyH_take 8 148 (.pointer (some ⟨L2, 0, none⟩)) rfl rfl (by kernel_rfl) (by kernel_rfl) (by kernel_rfl) (fun _ _ _ h => h) (.inl ⟨by rfl, fun w'' hS => by go_simp⟩) hS0 ?_
                (simp only [List.setIfInBounds_toArray, List.set_cons_zero, List.set_cons_succ])
                refine anyH_take 9 149 (.bool false) rfl rfl (by kernel_rfl) (by kernel_rfl) (by kernel_rfl) (fun _ _ _ h => h) (.inl ⟨by rfl, fun w'' hS => by go_simp⟩) hS0 ?_
                (simp only [List.setIfInBounds_toArray, List.set_cons_zero, List.set_cons_succ])
                refine anyH_take 10 150 (.bool false) rfl rfl (by kernel_rfl) (by kernel_rfl) (by kernel_rfl) (fun _ _ _ h => h) (.inl ⟨by rfl, fun w'' hS => by go_simp⟩) hS0 ?_
                (simp only [List.setIfInBounds_toArray, List.set_cons_zero, List.set_cons_succ])
                refine anyH_take 11 151 (.bool false) rfl rfl (by kernel_rfl) (by kernel_rfl) (by kernel_rfl) (fun _ _ _ h => h) (.inl ⟨by rfl, fun w'' hS => by go_simp⟩) hS0 ?_
                (simp only [List.setIfInBounds_toArray, List.set_cons_zero, List.set_cons_succ])
                refine anyH_take 12 152 (.pointer (some ⟨L2, 0, none⟩)) rfl rfl (by kernel_rfl) (by kernel_rfl) (by kernel_rfl) (fun _ _ _ h => h) (.inl ⟨by rfl, fun w'' hS => by go_simp⟩) hS0 ?_
                (simp only [List.setIfInBounds_toArray, List.set_cons_zero, List.set_cons_succ])
                refine anyH_take 13 153 (.pointer (some ⟨L2, 0, none⟩)) rfl rfl (by kernel_rfl) (by kernel_rfl) (by kernel_rfl) (fun _ _ _ h => h) (.inl ⟨by rfl, fun w'' hS => by go_simp⟩) hS0 ?_
                (simp only [List.setIfInBounds_toArray, List.set_cons_zero, List.set_cons_succ])
                refine anyH_take 14 154 (.pointer (some ⟨L2, 3, none⟩)) rfl rfl (by kernel_rfl) (by kernel_rfl) (by kernel_rfl) (fun _ _ _ h => h) (.inl ⟨by rfl, fun w'' hS => by go_simp⟩) hS0 ?_
                (simp only [List.setIfInBounds_toArray, List.set_cons_zero, List.set_cons_succ])
                refine anyH_take 15 155 (.slice A2 0 c2) rfl rfl (by kernel_rfl) (by kernel_rfl) (by kernel_rfl) (fun _ _ _ h => h) (.inl ⟨by rfl, fun w'' hS => by have q0 := (HC33.out w'' hS).2.2.2.2; go_simp⟩) hS0 ?_
                (simp only [List.setIfInBounds_toArray, List.set_cons_zero, List.set_cons_succ])
                refine anyH_take 16 156 (.int .i64 0) rfl rfl (by kernel_rfl) (by kernel_rfl) (by kernel_rfl) (fun _ _ _ h => h) (.inl ⟨by rfl, fun w'' hS => by go_simp⟩) hS0 ?_
                (simp only [List.setIfInBounds_toArray, List.set_cons_zero, List.set_cons_succ])
                refine anyH_take 17 157 (.bool false) rfl rfl (by kernel_rfl) (by kernel_rfl) (by kernel_rfl) (fun _ _ _ h => h) (.inl ⟨by rfl, fun w'' hS => by go_simp⟩) hS0 ?_
                (simp only [List.setIfInBounds_toArray, List.set_cons_zero, List.set_cons_succ])
                refine anyH_take 18 158 (.bool false) rfl rfl (by kernel_rfl) (by kernel_rfl) (by kernel_rfl) (fun _ _ _ h => h) (.inl ⟨by rfl, fun w'' hS => by go_simp⟩) hS0 ?_
                (simp only [List.setIfInBounds_toArray, List.set_cons_zero, List.set_cons_succ])
                refine anyH_take 19 159 (.bool false) rfl rfl (by kernel_rfl) (by kernel_rfl) (by kernel_rfl) (fun _ _ _ h => h) (.inl ⟨by rfl, fun w'' hS => by go_simp⟩) hS0 ?_
                (simp only [List.setIfInBounds_toArray, List.set_cons_zero, List.set_cons_succ])
                refine anyH_take 20 160 (.pointer (some ⟨L2, 0, none⟩)) rfl rfl (by kernel_rfl) (by kernel_rfl) (by kernel_rfl) (fun _ _ _ h => h) (.inl ⟨by rfl, fun w'' hS => by go_simp⟩) hS0 ?_
                (simp only [List.setIfInBounds_toArray, List.set_cons_zero, List.set_cons_succ])
                refine anyH_take 21 161 (.pointer (some ⟨L2, 0, none⟩)) rfl rfl (by kernel_rfl) (by kernel_rfl) (by kernel_rfl) (fun _ _ _ h => h) (.inl ⟨by rfl, fun w'' hS => by go_simp⟩) hS0 ?_
                (simp only [List.setIfInBounds_toArray, List.set_cons_zero, List.set_cons_succ])
                refine anyH_take 22 162 (.pointer (some ⟨L2, 0, none⟩)) rfl rfl (by kernel_rfl) (by kernel_rfl) (by kernel_rfl) (fun _ _ _ h => h) (.inl ⟨by rfl, fun w'' hS => by go_simp⟩) hS0 ?_
                (simp only [List.setIfInBounds_toArray, List.set_cons_zero, List.set_cons_succ])
                refine anyH_take 23 163 (.int .u64 ((c : Int) + 1)) rfl rfl (by kernel_rfl) (by kernel_rfl) (by kernel_rfl) (fun _ _ _ h => h) (.inl ⟨by rfl, fun w'' hS => by have q0 := (HC33.out w'' hS).2.2.2.1; go_simp⟩) hS0 ?_
                (simp only [List.setIfInBounds_toArray, List.set_cons_zero, List.set_cons_succ])
                refine anyH_take 24 164 (.pointer (some ⟨w7.heap.size, 0, none⟩)) rfl rfl (by kernel_rfl) (by kernel_rfl) (by kernel_rfl) (fun _ _ _ h => h) (.inl ⟨by rfl, fun w'' hS => by have q0 := (HC33.out w'' hS).2.1; go_simp⟩) hS0 ?_
                (simp only [List.setIfInBounds_toArray, List.set_cons_zero, List.set_cons_succ])
                refine anyH_take 25 165 (.pointer (some ⟨w7.heap.size, 0, none⟩)) rfl rfl (by kernel_rfl) (by kernel_rfl) (by kernel_rfl) (fun _ _ _ h => h) (.inl ⟨by rfl, fun w'' hS => by go_simp⟩) hS0 ?_
                (simp only [List.setIfInBounds_toArray, List.set_cons_zero, List.set_cons_succ])
                refine anyH_take 26 166 (.pointer (some ⟨w7.heap.size, 0, none⟩)) rfl rfl (by kernel_rfl) (by kernel_rfl) (by kernel_rfl) (fun _ _ _ h => h) (.inl ⟨by rfl, fun w'' hS => by go_simp⟩) hS0 ?_
                (simp only [List.setIfInBounds_toArray, List.set_cons_zero, List.set_cons_succ])
                refine anyH_take 27 167 (.int .u64 ((c : Int) + 1)) rfl rfl (by kernel_rfl) (by kernel_rfl) (by kernel_rfl) (fun _ _ _ h => h) (.inl ⟨by rfl, fun w'' hS => by have q0 := (HC33.out w'' hS).2.2.1; go_simp⟩) hS0 ?_
                (simp only [List.setIfInBounds_toArray, List.set_cons_zero, List.set_cons_succ])
                refine anyH_take 28 168 (.bool false) rfl rfl (by kernel_rfl) (by kernel_rfl) (by kernel_rfl) (fun _ _ _ h => h) (.inl ⟨by rfl, fun w'' hS => by go_simp⟩) hS0 ?_
                (simp only [List.setIfInBounds_toArray, List.set_cons_zero, List.set_cons_succ])
                refine anyH_take 29 169 (.bool false) rfl rfl (by kernel_rfl) (by kernel_rfl) (by kernel_rfl) (fun _ _ _ h => h) (.inl ⟨by rfl, fun w'' hS => by go_simp⟩) hS0 ?_
                (simp only [List.setIfInBounds_toArray, List.set_cons_zero, List.set_cons_succ])
                refine wpAnyH_done (by kernel_rfl) ?_ _
                have HZ9 := Lib.hid (H9.out.trans hS0 (fun _ _ q => q))
                clear hS0
                go_wp2_with fail
                have hpz := HX31.out.2.2.2.2.2.new HZ9.out (K' := 2 + (k + 1)) (Nat.le_refl _)
                have hfz := HX31.out.2.2.2.2.1.trans HZ9.out (fun _ _ q => q.elim)
                refine ⟨⟨k + 1, by norm_cast, by omega, Lib.hid hpz, Lib.hid hfz⟩, ?_⟩
                simp only [intOf]
                omega
            · rw [Bool.not_eq_true] at ok
              rw [ok] at o1 o2
              simp only [Bool.false_eq_true, if_false] at o1 o2
              subst o1
              have hde7 : Ded (d.settle 0 [hdS (c + 1) (c + 1)]) z (2 + (k + 1)) := Ded.cut HL.out.1.ri (by have := HL.out.1.cK; omega) HL.out.2.2.1 ok
              have HDE := Lib.hid (adead_any H7.out.2.1.1)
              rw [hde7.dd] at HDE
              have H8 := Lib.hid (And.intro o2 (show PlS w7 w.heap.size bd bs bq bx g z (2 + (k + 1)) (z + 5) from ⟨P7, _, _, _, H7.out.1, H7.out.2.1, hlen7, .inr ⟨hde7, .inr ⟨lb, _, _, _, _, rfl, o2⟩⟩⟩))
              clear o2 hde7 ok hlen7 kq7 ks7
              go_wp2_with fail
              refine HDE.out.mono ?_
              rintro en w8 ⟨rfl, rfl⟩
              go_wp2_with fail
              refine (ldead_any H8.out.1).mono ?_
              rintro en w8 ⟨rfl, hw⟩
              obtain rfl : w7 = w8 := hw.symm
              go_wp2_with fail
              refine ⟨⟨k + 1, by norm_cast, by omega, Lib.hid H8.out.2, Lib.hid H7.out.2.2⟩, ?_⟩
              simp only [intOf]
              omega
          · clear hde
            go_wp2_with fail
            rw [← HW6.out]
            refine ⟨⟨k + 1, by norm_cast, by omega, Lib.hid (HP.out.new H6.out.1 (by omega)), Lib.hid (HF.out.trans H6.out.1 (fun _ _ q => q.elim))⟩, ?_⟩
            simp only [intOf]
            omega
          · have HL := Lib.hid hlg
            have HDE := Lib.hid (adead_any H6.out.2.2.2.1.1)
            rw [hde.dd] at HDE
            clear hlg hde
            go_wp2_with fail
            rw [← HW6.out]
            clear kx6 kd6 kq6 ks6 kt1 kt2 kt3
            refine (ldead_any HL.out).mono ?_
            rintro en w7 ⟨rfl, hw⟩
            obtain rfl : w6 = w7 := hw.symm
            have kx7 := H6.out.2.1.x.cell 0
            have kd7 := H6.out.2.1.d.cell 0
            simp only [List.getElem?_toArray, List.getElem?_cons_zero] at kx7 kd7
            go_wp2_with fail
            refine (ltrunc_dead HL.out).mono ?_
            rintro en w7 ⟨rfl, rfl⟩
            go_wp2_with fail
            refine HDE.out.mono ?_
            rintro en w7 ⟨rfl, rfl⟩
            go_wp2_with fail
            refine (ldead_any HL.out).mono ?_
            rintro en w7 ⟨rfl, hw⟩
            obtain rfl : w6 = w7 := hw.symm
            go_wp2_with fail
            refine ⟨⟨k + 1, by norm_cast, by omega, Lib.hid (HP.out.new H6.out.1 (by omega)), Lib.hid (HF.out.trans H6.out.1 (fun _ _ q => q.elim))⟩, ?_⟩
            simp only [intOf]
            omega
        by_cases k3 : kk = 3
        · subst k3
          have HCL := Lib.hid (wplays1_any (K := 2 + k) H6.out.2.1 H6.out.2.2.2.1 H0.out.2.2.1 H6.out.2.2.2.2.1.opa h4 h200 rfl (by have := HXX.out.2.2.2.2.2.2.1; omega) H6.out.2.2.2.2.2.size)
          go_wp2_with fail
          rw [← HW6.out]
          refine HCL.out.mono ?_
          rintro en w7 ⟨rfl, hps, f7⟩
          have H7 := Lib.hid (And.intro hps (H6.out.2.2.2.2.2.trans f7 (fun _ _ q => q)))
          clear hps f7 HCL
          go_wp2_with fail
          refine ⟨⟨k + 1, by norm_cast, by omega, Lib.hid H7.out.1, Lib.hid H7.out.2⟩, ?_⟩
          simp only [intOf]
          omega
        by_cases k4 : kk = 4
        · subst k4
          by_cases hnx : nx < 0
          · have HFN := Lib.hid (afuse_neg H6.out.2.2.2.1.1 nx hnx)
            go_wp2_with fail
            rw [← HW6.out]
            refine HFN.out.mono ?_
            rintro en w7 ⟨rfl, rfl⟩
            go_wp2_with fail
            refine ⟨⟨k + 1, by norm_cast, by omega, Lib.hid (HP.out.new H6.out.1 (by omega)), Lib.hid (HF.out.trans H6.out.1 (fun _ _ q => q.elim))⟩, ?_⟩
            simp only [intOf]
            omega
          · have HFN := Lib.hid (afuse_any H6.out.2.2.2.1.1 nx hnx HXX.out.2.2.2.2.2.2.2)
            go_wp2_with fail
            rw [← HW6.out]
            refine HFN.out.mono ?_
            rintro en w7 ⟨rfl, hd7, f7⟩
            obtain ⟨P7, hd7', _⟩ := DT.of (S := 0) (P0 := P) hd7 (fun b q => .inl q)
            have hE7 := H6.out.2.1.disk H6.out.2.2.2.1 f7
            have hno : ∀ b t cs, Blk w6 b t cs → t ≠ 74 → t ≠ 45 → ¬ P b := fun b t cs hb h1 h2 x => by
              rcases H6.out.2.2.2.1.2 b t cs x hb with y | y
              · exact h1 y
              · exact h2 y
            have hs7 := (H6.out.2.2.2.2.1.keep f7 (fun b cs hb => hno b _ cs hb (by decide) (by decide)) (fun b cs hb => hno b _ cs hb (by decide) (by decide)) (fun b cs hb => hno b _ cs hb (by decide) (by decide)) (fun b cs hb => hno b _ cs hb (by decide) (by decide))).fuse nx
            have H7 := Lib.hid (And.intro (show PlS w7 w.heap.size bd bs bq bx g z (2 + (k + 1)) (z + 5) from ⟨P7, _, xo, qo, hE7, hd7', H0.out.2.2.1, hs7.mono (by omega)⟩) (H6.out.2.2.2.2.2.trans f7 (fun b _ q => (H6.out.2.2.2.1.1.2 b q).1)))
            clear hd7 hd7' hE7 hno hs7 f7 HFN
            go_wp2_with fail
            refine ⟨⟨k + 1, by norm_cast, by omega, Lib.hid H7.out.1, Lib.hid H7.out.2⟩, ?_⟩
            simp only [intOf]
            omega
        by_cases k5 : kk = 5
        · subst k5
          have HCR := Lib.hid (acrash_p1 H6.out.2.2.2.1.1 (vp := .slice Ap np cp) (picks := x.ps) (by rw [HXX.out.2.2.2.2.2.1]; rw [← HXX.out.2.2.2.2.2.1]; exact HXX.out.2.1.old (Nat.le_refl _) (H6.out.1.mono (fun _ _ q => q.elim))) (fun b hb hp0 q => by
            have h1 := HXX.out.2.2.1 b hb (by rw [HXX.out.2.2.2.2.2.1]; exact hp0)
            have h2 := (H6.out.2.2.2.1.1.2 b q).1
            omega) H6.out.2.2.2.2.1.opa.most)
          go_wp2_with fail
          rw [← HW6.out]
          refine HCR.out.mono ?_
          rintro en w7 ⟨rfl, hd7, f7⟩
          obtain ⟨P7, hd7', _⟩ := DT.of (S := 0) (P0 := P) hd7 (fun b q => .inl q)
          have hE7 := H6.out.2.1.disk H6.out.2.2.2.1 f7
          have f7w : Fr (fun b => w.heap.size ≤ b) w w7 := H6.out.2.2.2.2.2.trans f7 (fun b _ q => (H6.out.2.2.2.1.1.2 b q).1)
          have HCL := Lib.hid (wplays1_any (K := 2 + k) hE7 hd7' (by rw [crash_len]; exact H0.out.2.2.1) (H6.out.2.2.2.2.1.opa.crash x.ps) h4 h200 rfl (by have := HXX.out.2.2.2.2.2.2.1; omega) f7w.size)
          have H7 := Lib.hid f7w
          clear hd7 hd7' hE7 f7w f7 HCR kx6 kd6 kq6 ks6 kt1 kt2 kt3
          go_wp2_with fail
          refine HCL.out.mono ?_
          rintro en w8 ⟨rfl, hps, f8⟩
          have H8' := Lib.hid (And.intro hps (H7.out.trans f8 (fun _ _ q => q)))
          clear hps f8 HCL
          go_wp2_with fail
          refine ⟨⟨k + 1, by norm_cast, by omega, Lib.hid H8'.out.1, Lib.hid H8'.out.2⟩, ?_⟩
          simp only [intOf]
          omega
        go_wp2_with fail
        rw [← HW6.out]
        refine ⟨⟨k + 1, by norm_cast, by omega, Lib.hid (HP.out.new H6.out.1 (by omega)), Lib.hid (HF.out.trans H6.out.1 (fun _ _ q => q.elim))⟩, ?_⟩
        simp only [intOf]
        omega
      · have hkn : n = k := by omega
        subst hkn
        clear hlt
        go_wp2_with fail
        refine (known_any _).mono ?_
        rintro e wk ⟨rfl, fk⟩
        have HK := Lib.hid (show Fr (fun _ => False) w wk from (HF.out.trans fk (fun _ _ q => q.elim)).mono (fun b hb q => by omega))
        clear fk
        go_wp2_with fail
        go_ret
        exact ⟨rfl, HK.out⟩
end Go.Proofs.YtjdbgojnpnlblaaGreat
