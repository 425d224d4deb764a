/- R7: laid together out of Qnd Qfm Qop. -/
import Derived.Test.YtcnlgbjkjlbmbaaGreatR6
namespace Go.Proofs.YtcnlgbjkjlbmbaaGreat
open Go.RowKit

structure ND (d : DS) (N : Nat) : Prop where
 fr : d.free
 vs : ∀ j, d.vs j = []
 rd : d.rd = List.replicate N (nought 128)
set_option maxRecDepth 100000 in
theorem ND.new (N : Nat) : ND (newD N) N := ⟨⟨rfl, rfl⟩, fun _ => rfl, rfl⟩
set_option maxRecDepth 100000 in
theorem ND.len {d : DS} {N : Nat} (h : ND d N) : d.rd.length = N := by rw [h.rd, List.length_replicate]
set_option maxRecDepth 100000 in
theorem ND.forget {d : DS} {N : Nat} (h : ND d N) : d.settles 0 [nought 128] = true ∧ ND (d.settle 0 [nought 128]) N := by
 have h1 := settle_free h.fr 0 [nought 128]
 refine ⟨h1.1, h1.2.1, h1.2.2.2, ?_⟩
 rw [h1.2.2.1, h.rd]
 show (List.replicate N (nought 128)).set 0 (nought 128) = _
 simp
set_option maxRecDepth 100000 in
theorem puts_free : ∀ {ps : List (Nat × List UInt8)} {d : DS} {N : Nat}, d.free → d.rd = List.replicate N (nought 128) → (∀ p ∈ ps, p.2 = nought 128) → (d.puts ps).free ∧ (d.puts ps).rd = List.replicate N (nought 128)
 | [], _, _, h1, h2, _ => ⟨h1, h2⟩
 | p :: ps, d, N, h1, h2, h3 => by
   have h4 := write_free h1 p.1 p.2
   refine puts_free (ps := ps) (d := d.write p.1 p.2) h4.1 ?_ (fun q hq => h3 q (by simp [hq]))
   rw [h4.2, h2, h3 p (by simp)]
   simp
set_option maxRecDepth 100000 in
theorem ND.puts {d : DS} {N : Nat} (h : ND d N) {ps : List (Nat × List UInt8)} (hp : ∀ p ∈ ps, p.2 = nought 128) : (d.puts ps).alive = true ∧ ND (d.puts ps).flushed N := by
 have h1 := puts_free h.fr h.rd hp
 have ha := free_alive h1.1
 have h2 := flushed_rest ha
 refine ⟨ha, ⟨?_, h2.2, by rw [h2.1]; exact h1.2⟩⟩
 have := settle_free h1.1 0 []
 exact this.2.1
set_option maxRecDepth 100000 in
theorem ND.kd {d : DS} {N : Nat} (h : ND d N) (h0 : 0 < N) : KD d N (nought 128) (fun _ => some (nought 128)) :=
 ⟨h.fr, fun j => by rw [h.vs j]; exact Nat.zero_le _, h.len, h0, by rw [h.rd]; simp [h0], fun j _ hj => by rw [h.rd]; simp [hj]⟩
set_option maxRecDepth 100000 in
theorem nought_part {i : Nat} (hi : i < 4) : ((nought 512).drop (i * 128)).take 128 = nought 128 := by
 unfold nought
 rw [List.drop_replicate, List.take_replicate, Nat.min_eq_left (by omega)]
structure FD (d : DS) (z N : Nat) : Prop where
 fr : d.free
 ri : RI d z 1 1 [] 0
 len : d.rd.length = N
 pg : ∀ n, 1 + z + 4 * n + 4 ≤ N → pgAt d z n = nought 512
set_option maxRecDepth 100000 in
theorem ND.format {d : DS} {N z : Nat} (h : ND d N) (hz : z + 1 ≤ N) : d.formats z = true ∧ FD (d.format z) z N := by
 obtain ⟨k1, k2⟩ := (h.kd (by omega)).format hz
 obtain ⟨_, j2⟩ := (KD.new (N := N) (by omega)).format hz
 have hrd : (d.format z).rd = ((newD N).format z).rd := by
  apply List.ext_getElem?
  intro j
  rcases Nat.eq_zero_or_pos j with rfl | h0
  · rw [k2.hd, j2.hd]
  · by_cases hj : j < N
    · rw [k2.bd j h0 hj, j2.bd j h0 hj]
    · rw [List.getElem?_eq_none (by rw [k2.ln]; omega), List.getElem?_eq_none (by rw [j2.ln]; omega)]
 refine ⟨k1, ⟨k2.fr, (RI.new hz).2.same hrd (format_vs h.fr z), k2.ln, fun n hn => ?_⟩⟩
 rw [← page_parts (nought_len 512)]
 unfold pgAt
 refine flatMap_same fun i hi => ?_
 have hi4 := List.mem_range.1 hi
 rw [nought_part hi4, List.getD_eq_getElem?_getD, k2.bd _ (by omega) (by omega), if_neg (by omega)]
 rfl
def noF (k : Nat) : Nat → List UInt8 := fun n => if n < k then nought 512 else []
set_option maxRecDepth 100000 in
theorem noF_zero : noF 0 = fun _ => [] := by
 funext n
 simp [noF]
set_option maxRecDepth 100000 in
theorem noF_next (k : Nat) : upd (noF k) k (nought 512) = noF (k + 1) := by
 funext n
 unfold upd noF
 by_cases h : n = k
 · rw [if_pos h, if_pos (by omega)]
 · rw [if_neg h]
   by_cases h2 : n < k
   · rw [if_pos h2, if_pos (by omega)]
   · rw [if_neg h2, if_neg (by omega)]
set_option maxRecDepth 100000 in
theorem noF_puts {z C : Nat} : ∀ p ∈ pagesW z (noF C) (openF (noF C) C), p.2 = nought 128 := fun p hp => by
 obtain ⟨n, hn, i, hi, rfl⟩ := pagesW_at hp
 have h1 := (openF_mem.1 hn).1
 show (((noF C n).drop (i * 128)).take 128) = _
 have : noF C n = nought 512 := by unfold noF; rw [if_pos h1]
 rw [this, nought_part hi]
end Go.Proofs.YtcnlgbjkjlbmbaaGreat

namespace Go.Proofs.YtcnlgbjkjlbmbaaGreat
open Go.RowKit

set_option maxRecDepth 100000 in
theorem plformat_of {w : World} {p : Value} {n : Nat} (hn : n ≤ 8192) (HS : Calls Tryz.prog 60 #[p] w fun e w' => e = .returned (.int .i64 n) ∧ w = w') (z : Int) {r : Int} (hr : pfitE n z = r) (hr0 : r ≠ 0) : Calls Tryz.prog 31 #[p, .int .i64 z] w fun e w' => e = .returned (.int .i64 r) ∧ w = w' := by
 have HF := Lib.hid (pfits_of hn HS z)
 rw [hr] at HF
 have hb : (r == 0) = false := by rw [beq_eq_false_iff_ne]; exact hr0
 clear HS hr
 go_enter Tryz.func31, Tryz.ntmps31
 go_wp2_with fail
 refine HF.out.mono ?_
 rintro e w2 ⟨rfl, rfl⟩
 go_wp2_with fail
 go_ret
 exact ⟨rfl, rfl⟩
set_option maxRecDepth 100000 in
set_option maxHeartbeats 8000000 in
theorem plformat_new {w : World} {B g N z : Nat} {P : Nat → Prop} {d : DS} (h : DAt w B P g d) (hn : ND d N) (h4 : 4 ≤ z) (hz : z ≤ 4000) (hC4 : 4 ≤ pcnt N (z : Nat)) (hC : pcnt N (z : Nat) ≤ 2000) :
 Calls Tryz.prog 31 #[.pointer (some ⟨g, 0, none⟩), .int .i64 (z : Nat)] w fun e w' => e = .returned (.int .i64 0) ∧ (∃ P' d', DAt w' B P' g d' ∧ FD d' z N ∧ ∀ b, P' b → P b ∨ w.heap.size ≤ b) ∧ Fr P w w' := by
 have hlen := hn.len
 have hN9 : N ≤ 8192 := by have := h.len; omega
 obtain ⟨C, hCe⟩ : ∃ C, C = pcnt N (z : Nat) := ⟨_, rfl⟩
 have hCN : 1 + z + 4 * C ≤ N := by
  rw [hCe] at *
  unfold pcnt at *
  split at hC4
  · omega
  · rename_i hq
    rw [if_neg hq]
    rw [Int.toNat_natCast] at *
    omega
 rw [← hCe] at hC4 hC
 have HF := Lib.hid (pfits_of (n := d.rd.length) (by omega) (asec_any h) (z : Nat))
 have hfe : pfitE d.rd.length (z : Nat) = 0 := by
  unfold pfitE
  rw [hlen, ← hCe, if_neg (by omega), if_neg (by omega)]
 rw [hfe] at HF
 have HG := Lib.hid (pforget_any h (by rw [hn.vs 0]; exact Nat.zero_le _))
 rw [hn.forget.1] at HG
 simp only [if_true] at HG
 have hn1 := hn.forget.2
 obtain ⟨d1, hd1⟩ : ∃ d1, d1 = d.settle 0 [nought 128] := ⟨_, rfl⟩
 rw [← hd1] at HG hn1
 have HN1 := Lib.hid (And.intro hn1 (And.intro hCe (And.intro h hCN)))
 clear h hn hn1 hlen hCe hfe hd1 hCN
 go_enter Tryz.func31, Tryz.ntmps31
 go_wp2_with fail
 refine HF.out.mono ?_
 rintro e w0 ⟨rfl, rfl⟩
 go_wp2_with fail
 refine HG.out.mono ?_
 rintro e w1 ⟨rfl, ⟨P1, hd1, hp1⟩, f1⟩
 obtain ⟨W1, hW1⟩ : ∃ W1, W1 = w1.alloc (.map #[] 0) := ⟨_, rfl⟩
 have fa : Fr (fun _ => False) w1 W1 := by rw [hW1]; exact (Fr.refl _ w1).alloc _
 have hm0 : PMap W1 w1.heap.size C (noF 0) := by rw [hW1, noF_zero]; exact PMap.made w1 C
 have hdW := hd1.new fa
 have HCN := Lib.hid (pcount_any hdW (z : Nat))
 have hmm := @run_makeMap Tryz.prog
 rw [HN1.out.1.len, ← HN1.out.2.1] at HCN
 have hM1 : ¬ P1 w1.heap.size := fun q => by have := (hd1.2 _ q).2; omega
 have H1 := Lib.hid (And.intro hdW (And.intro hp1 (And.intro f1 (And.intro hm0 (And.intro fa hM1)))))
 clear hd1 hp1 f1 fa hm0 hdW hM1 HF HG
 go_wp2_with fail
 rw [hW1] at HCN
 refine HCN.out.mono ?_
 rintro e w2 ⟨rfl, hw2⟩
 rw [← hW1] at hw2
 subst hw2
 clear HCN hW1 hmm
 go_wp2_with fail
 go_loopw [8, 25] (fun _ x wr => ∃ k : Nat, x = .int .i64 k ∧ k ≤ C ∧ Hid (PMap wr w1.heap.size C (noF k)) ∧ Hid (Fr (fun b => b = w1.heap.size) W1 wr)) (fun _ x _ => C - (intOf x).toNat)
 case atStart => exact ⟨0, rfl, Nat.zero_le _, Lib.hid H1.out.2.2.2.1, Lib.hid (Fr.refl _ _)⟩
 case round =>
  obtain ⟨k, rfl, hk, HM, HFk⟩ := hrel
  by_cases hlt : k < C
  · obtain ⟨z0, hz0⟩ : ∃ z0, z0 = nought 512 := ⟨_, rfl⟩
    have HZ := Lib.hid (And.intro hz0 (show z0.length = 512 by rw [hz0]; exact nought_len 512))
    have hzz : Value.agg Tryz.zeroCells50 = av z0 := by rw [hz0]; exact zeroPgV
    have HZZ := Lib.hid hzz
    clear hzz
    have hC9 : C ≤ 8192 := by omega
    clear hz0
    have hk0 : (0 : Int) ≤ (k : Int) := by omega
    have hkC : (k : Int) < (C : Int) := by omega
    go_wp2_with (refine wpList_pm_put (p := z0) rfl (.tmp 28) (.tmp 29) (.tmp 30) rfl HM.out hC9 rfl rfl hlt HZZ.out HZ.out.2 ?_; intro w5 hm5 f5; have H5 := Lib.hid (And.intro hm5 f5); clear hm5 f5; go_frame)
    go_roundw
    case rel => exact ⟨k + 1, by norm_cast, by omega, Lib.hid (H5.out.1.congr (by rw [HZ.out.1]; exact noF_next k)), Lib.hid (HFk.out.trans H5.out.2 (fun _ _ q => q))⟩
    case measure =>
     simp only [intOf]
     omega
  · obtain rfl : k = C := by omega
    have hdr : DAt wr B P1 g d1 := H1.out.1.keep HFk.out (fun i hi e => H1.out.2.2.2.2.2 (e ▸ hi))
    have hPM : ¬ P1 w1.heap.size := H1.out.2.2.2.2.2
    have HSE := Lib.hid (psettle_any (z := z) hdr HM.out hPM hC hz (by rw [HN1.out.1.len]; exact HN1.out.2.2.2) (fun j => by rw [HN1.out.1.vs j]; exact Nat.zero_le _))
    have hnp := HN1.out.1.puts (noF_puts (z := z) (C := k))
    rw [hnp.1] at HSE
    simp only [if_true] at HSE
    obtain ⟨d2, hd2⟩ : ∃ d2, d2 = (d1.puts (pagesW z (noF k) (openF (noF k) k))).flushed := ⟨_, rfl⟩
    rw [← hd2] at HSE hnp
    have HN2 := Lib.hid hnp.2
    clear hdr hPM hnp hd2 hlt
    go_wp2_with fail
    refine HSE.out.mono ?_
    rintro e w5 ⟨rfl, ⟨P5, hd5, hp5⟩, f5⟩
    have HFM := Lib.hid (format_any hd5 (fun j => by rw [HN2.out.vs j]; exact Nat.zero_le _) h4 hz (by rw [HN2.out.len]; have := HN1.out.2.2.2; omega))
    have hff := HN2.out.format (z := z) (by have := HN1.out.2.2.2; omega)
    rw [hff.1] at HFM
    simp only [if_true] at HFM
    have H5 := Lib.hid (And.intro hp5 (And.intro f5 hff.2))
    clear hd5 hp5 f5 hff HSE
    go_wp2_with fail
    refine HFM.out.mono ?_
    rintro e w6 ⟨rfl, ⟨P6, hd6, hp6⟩, f6⟩
    have H6 := Lib.hid (And.intro hd6 (And.intro hp6 f6))
    clear hd6 hp6 f6 HFM
    go_wp2_with fail
    go_ret
    obtain ⟨hdW, hp1, f1, hm0, fa, hM1⟩ := H1.out
    obtain ⟨hp5, f5, hff⟩ := H5.out
    obtain ⟨hd6, hp6, f6⟩ := H6.out
    have s1 := f1.size
    have sa := fa.size
    have sk := HFk.out.size
    have s5 := f5.size
    refine ⟨rfl, ⟨P6, _, hd6, hff, fun b hb => ?_⟩, ?_⟩
    · rcases hp6 b hb with y | y
      · rcases hp5 b y with y | y
        · rcases hp1 b y with y | y
          · exact .inl y
          · exact .inr y
        · exact .inr (by omega)
      · exact .inr (by omega)
    · have g1 : Fr P w wr := (f1.trans fa (fun _ _ q => q.elim)).trans HFk.out (fun b hb q => by omega)
      refine (g1.trans f5 (fun b hb q => ?_)).trans f6 (fun b hb q => ?_)
      · rcases hp1 b q with y | y
        · exact y
        · omega
      · rcases hp5 b q with y | y
        · rcases hp1 b y with y | y
          · exact y
          · omega
        · omega
end Go.Proofs.YtcnlgbjkjlbmbaaGreat

namespace Go.Proofs.YtcnlgbjkjlbmbaaGreat
open Go.RowKit

set_option maxRecDepth 100000 in
theorem laid_may {body : List (List UInt8)} {c s : Nat} : ∀ {q : List (Nat × List Chg)} {a n e : Nat}, LaidAt body c s a n q e → ∀ r ∈ q.map (·.2), mayR r = true ∧ ∀ x ∈ r, x.p.length = 512
 | [], _, _, _, _ => fun r hr => by simp at hr
 | q :: qs, a, n, e, h => fun r hr => by
   obtain ⟨h1, h2, _, _, _, _, _, h3⟩ := h
   rw [List.map_cons] at hr
   rcases List.mem_cons.1 hr with rfl | hr
   · exact ⟨h1, h2⟩
   · exact laid_may h3 r hr
set_option maxRecDepth 100000 in
theorem may_nums {r : List Chg} (h : mayR r = true) : ∀ x ∈ r, 0 ≤ x.n ∧ x.n ≤ 2147483647 := fun x hx => by
 unfold mayR at h
 simp only [Bool.and_eq_true, decide_eq_true_eq, List.all_eq_true] at h
 have := h.2.2 x hx
 unfold okN at this
 simpa only [Bool.and_eq_true, decide_eq_true_eq] using this
set_option maxRecDepth 100000 in
theorem build_pool (g z fr lb M1 M2 : Nat) (w : World) : (Instr.build 65 #[(0, .pointer (some ⟨g, 0, none⟩)), (1, .int .i64 (z : Nat)), (2, .int .i64 (fr : Nat)), (3, .pointer (some ⟨lb, 0, none⟩)), (4, .map (some M1)), (5, .map (some M2))]).run Tryz.prog w = .ok (.agg (plC g z fr lb M1 M2 (.slice none 0 0) false)) w := by kernel_rfl
section
variable {w : World} {B g z c s e fr N : Nat} {P : Nat → Prop} {d : DS} {q : List (Nat × List Chg)}
abbrev rdF (N : Nat) (q : List (Nat × List Chg)) : Nat → List UInt8 := redoF N (fun _ => []) (q.map (·.2)).flatten
def opD (d : DS) (z c s N : Nat) (q : List (Nat × List Chg)) : DS := if d.settles 0 [hdS (c + 1) s] = true ∧ q ≠ [] then ckD (d.settle 0 [hdS (c + 1) s]) z (c + 1) N (rdF N q) else d.settle 0 [hdS (c + 1) s]
def opOk (d : DS) (z c s N : Nat) (q : List (Nat × List Chg)) : Bool := d.settles 0 [hdS (c + 1) s] && (q.isEmpty || ckOk (d.settle 0 [hdS (c + 1) s]) z (c + 1) N (rdF N q))
def OpenedP (w w' : World) (g z fr c s N : Nat) (v : Value) (P' : Nat → Prop) : Prop := ∃ p lb M1 M2, v = .pointer (some ⟨p, 0, none⟩) ∧ w.heap.size ≤ p ∧ w.heap.size ≤ lb ∧ w.heap.size ≤ M1 ∧ w.heap.size ≤ M2 ∧ M1 ≠ M2 ∧ ¬ P' M1 ∧ ¬ P' M2 ∧ PlB w' p g z fr lb M1 M2 (.slice none 0 0) false ∧ LgW w' lb g z c s 0 0 false ∧ PMap w' M1 N (fun _ => []) ∧ PMap w' M2 N (fun _ => [])
set_option maxRecDepth 100000 in
set_option maxHeartbeats 8000000 in
theorem plopen_any (h : DT w B g d P) (hr : RI d z c s q e) (h4 : 4 ≤ z) (hz : z ≤ 4000) (hc : c + 2 < maxC) (hfr : 2 ≤ fr) (hfr2 : fr ≤ 100) (hNe : N = pcnt d.rd.length (z : Nat)) (hN4 : 4 ≤ N) (hN : N ≤ 2000) (hq : q.length ≤ 10000) :
 Calls Tryz.prog 14 #[.pointer (some ⟨g, 0, none⟩), .int .i64 (z : Nat), .int .i64 (fr : Nat)] w fun en w' => ∃ P' v, en = .returned (.tuple #[v, .int .i64 (if opOk d z c s N q then 0 else 10)]) ∧ (opOk d z c s N q = false → v = .pointer none) ∧ (opOk d z c s N q = true → OpenedP w w' g z fr (if q = [] then c + 1 else c + 2) (if q = [] then s else c + 2) N v P') ∧ DT w' B g (opD d z c s N q) P' ∧ (∀ b, P' b → P b ∨ w.heap.size ≤ b) ∧ Fr P w w' := by
 obtain ⟨CR, hCR⟩ : ∃ CR : Value → Int → World → Prop, CR = fun v rr w' => ∃ P', rr = (if opOk d z c s N q then 0 else 10) ∧ (opOk d z c s N q = false → v = .pointer none) ∧ (opOk d z c s N q = true → OpenedP w w' g z fr (if q = [] then c + 1 else c + 2) (if q = [] then s else c + 2) N v P') ∧ DT w' B g (opD d z c s N q) P' ∧ (∀ b, P' b → P b ∨ w.heap.size ≤ b) ∧ Fr P w w' := ⟨_, rfl⟩
 have HCR := Lib.hid hCR
 suffices hgoal : Calls Tryz.prog 14 #[.pointer (some ⟨g, 0, none⟩), .int .i64 (z : Nat), .int .i64 (fr : Nat)] w fun en w' => ∃ v rr, en = .returned (.tuple #[v, .int .i64 rr]) ∧ CR v rr w' by
  refine hgoal.mono ?_
  rintro en w' ⟨v, rr, rfl, hq⟩
  rw [hCR] at hq
  obtain ⟨P', rfl, hq⟩ := hq
  exact ⟨P', v, rfl, hq⟩
 clear hCR
 have hCN : 1 + z + 4 * N ≤ d.rd.length := by
  have hl := hr.len
  have : pcnt d.rd.length (z : Nat) = (d.rd.length - (1 + z)) / 4 := by
   unfold pcnt
   rw [if_neg (by omega), Int.toNat_natCast]
  omega
 have hl9 : d.rd.length ≤ 8192 := by have := h.1.len; omega
 have HF := Lib.hid (pfits_of (n := d.rd.length) hl9 (asec_any h.1) (z : Nat))
 have hfe : pfitE d.rd.length (z : Nat) = 0 := by
  unfold pfitE
  rw [← hNe, if_neg (by have := hr.len; omega), if_neg (by omega)]
 rw [hfe] at HF
 have HSP := Lib.hid (pspends_any h.1 hr h4 hz (by omega))
 have H0 := Lib.hid (And.intro h (And.intro hr (And.intro hNe hCN)))
 have hf1 : ¬ (fr : Int) < 2 := by omega
 have hf2 : ¬ (100 : Int) < (fr : Int) := by omega
 clear h hr hNe hCN hl9 hfe
 go_enter Tryz.func14, Tryz.ntmps14
 go_wp2_with fail
 refine HF.out.mono ?_
 rintro en w0 ⟨rfl, rfl⟩
 go_wp2_with fail
 refine HSP.out.mono ?_
 rintro en w1 ⟨rfl, f1⟩
 have HOP := Lib.hid (ropen_any (H0.out.1.keep' f1 (fun _ _ q => q)) H0.out.2.1 h4 hz (by omega))
 have H1 := Lib.hid f1
 clear f1 HSP HF hf1 hf2
 go_wp2_with fail
 refine HOP.out.mono ?_
 rintro en w2 ⟨o1, o2, ⟨P2, hd2, hp2⟩, f2⟩
 have hF2 : Fr P w w2 := (H1.out.mono (fun _ _ q => q.elim)).trans f2 (fun _ _ q => q)
 have hsep2 : ∀ b, P2 b → P b ∨ w.heap.size ≤ b := fun b hb => by
  rcases hp2 b hb with y | y
  · exact .inl y
  · have := H1.out.size; exact .inr (by omega)
 have H2 := Lib.hid (And.intro hd2 (And.intro hsep2 hF2))
 clear hd2 hp2 f2 hF2 hsep2 HOP
 cases hs : d.settles 0 [hdS (c + 1) s] with
 | false =>
   obtain rfl := o1 hs
   have HSS := Lib.hid hs
   clear o1 o2 hs
   go_wp2_with fail
   refine bodyPost_ret (results_tmp2 rfl _ _ _) rfl ?_
   refine ⟨.pointer none, 10, rfl, ?_⟩
   rw [HCR.out]
   have e1 : opOk d z c s N q = false := by unfold opOk; rw [HSS.out, Bool.false_and]
   have e2 : opD d z c s N q = d.settle 0 [hdS (c + 1) s] := by unfold opD; rw [if_neg (by rw [HSS.out]; simp)]
   refine ⟨P2, by rw [e1]; rfl, fun _ => rfl, (fun q => by rw [e1] at q; cases q), by rw [e2]; exact H2.out.1, H2.out.2.1, H2.out.2.2⟩
 | true =>
   obtain ⟨lb, rv, rfl, hlb, hlg, hrv⟩ := o2 hs
   have hro := H0.out.2.1.opens (by omega) hs
   have hlbw : w.heap.size ≤ lb := Nat.le_trans H1.out.size hlb
   obtain ⟨d1, hd1⟩ : ∃ d1, d1 = d.settle 0 [hdS (c + 1) s] := ⟨_, rfl⟩
   have hd1l : d1.rd.length = d.rd.length := by rw [hd1]; exact settle_len _ _ _
   have HSS := Lib.hid (And.intro hs (And.intro hd1 hd1l))
   rw [← hd1] at H2 hro
   have hmay := laid_may hro.1.laid
   obtain ⟨Ar, cr, hrve, _⟩ := hrv.form
   -- the pool's struct
   have hmm := @run_makeMap Tryz.prog
   obtain ⟨W3, hW3⟩ : ∃ W3, W3 = ((w2.alloc (.map #[] 0)).alloc (.map #[] 0)).alloc (.cells (plC g z fr lb w2.heap.size (w2.heap.size + 1) (.slice none 0 0) false) 65) := ⟨_, rfl⟩
   have f3 : Fr (fun _ => False) w2 W3 := by rw [hW3]; exact ((((Fr.refl _ w2).alloc _).alloc _).alloc _)
   have hpl : PlB W3 (w2.heap.size + 2) g z fr lb w2.heap.size (w2.heap.size + 1) (.slice none 0 0) false := by
    rw [hW3]
    have := Blk.new ((w2.alloc (.map #[] 0)).alloc (.map #[] 0)) 65 (plC g z fr lb w2.heap.size (w2.heap.size + 1) (.slice none 0 0) false)
    simpa using this
   have hm1 : PMap W3 w2.heap.size N (fun _ => []) := by
    rw [hW3]
    exact (PMap.made w2 N).keep (G := fun _ => False) ((((Fr.refl _ _).alloc _).alloc _)) (fun q => q)
   have hm2 : PMap W3 (w2.heap.size + 1) N (fun _ => []) := by
    rw [hW3]
    have := (PMap.made (w2.alloc (.map #[] 0)) N).keep (G := fun _ => False) ((Fr.refl _ _).alloc (.cells (plC g z fr lb w2.heap.size (w2.heap.size + 1) (.slice none 0 0) false) 65)) (fun q => q)
    simpa using this
   have hdW := H2.out.1.keep' f3 (fun _ _ q => q)
   have hP21 : ¬ P2 w2.heap.size := fun q => by have := (H2.out.1.1.2 _ q).2; omega
   have hP22 : ¬ P2 (w2.heap.size + 1) := fun q => by have := (H2.out.1.1.2 _ q).2; omega
   have hN1 : N = pcnt d1.rd.length (z : Nat) := by rw [hd1l]; exact H0.out.2.2.1
   have HRD : Hid (Calls Tryz.prog 45 #[.pointer (some ⟨w2.heap.size + 2, 0, none⟩), rv] W3 fun e w' => e = .returned (.tuple #[]) ∧ PMap w' (w2.heap.size + 1) N (rdF N q) ∧ Fr (fun b => b = w2.heap.size + 1) W3 w') := Lib.hid (by
    have := plredo_any (f2 := fun _ => []) hpl hdW.1 hP22 (hN1 ▸ hm2) (hrv.new f3) (fun r hr => ⟨by have := mayR_len (hmay r hr).1; omega, may_nums (hmay r hr).1⟩) (by rw [List.length_map]; exact hq) (by rw [← hN1]; omega)
    rw [← hN1] at this
    exact this)
   obtain ⟨m, hmq⟩ : ∃ m, m = (q.map (·.2)).length := ⟨_, rfl⟩
   rw [← hmq] at hrve
   have hbp := build_pool g z fr lb w2.heap.size (w2.heap.size + 1)
   have hs2 := H2.out.2.2.size
   have h512 : ∀ n, rdF N q n ≠ [] → n < N ∧ (rdF N q n).length = 512 := fun n hn => by
    have hcs : ∀ x ∈ (q.map (·.2)).flatten, x.p.length = 512 ∧ 0 ≤ x.n := fun x hx => by
     obtain ⟨r, hr, hxr⟩ := List.mem_flatten.1 hx
     exact ⟨(hmay r hr).2 x hxr, (may_nums (hmay r hr).1 x hxr).1⟩
    have hall : ∀ (cs : List Chg) (f : Nat → List UInt8), (∀ x ∈ cs, x.p.length = 512 ∧ 0 ≤ x.n) → (∀ n, f n ≠ [] → n < N ∧ (f n).length = 512) → ∀ n, redoF N f cs n ≠ [] → n < N ∧ (redoF N f cs n).length = 512 := fun cs => by
     induction cs with
     | nil => intro f _ hf; exact hf
     | cons x cs ih =>
       intro f hx hf
       refine ih (if x.n < (N : Int) then upd f x.n.toNat x.p else f) (fun y hy => hx y (by simp [hy])) ?_
       split
       · intro n hn
         by_cases hnx : n = x.n.toNat
         · subst hnx
           rw [upd_self]
           have := (hx x (by simp)).2
           exact ⟨by omega, (hx x (by simp)).1⟩
         · rw [upd_ne hnx] at hn ⊢
           exact hf n hn
       · exact hf
    exact hall _ _ hcs (fun n hn => absurd rfl hn) n hn
   have HLB : Hid (lb ≠ w2.heap.size + 1) := Lib.hid (fun e => by have := hlg.lt; omega)
   have H3 := Lib.hid (And.intro f3 (And.intro hpl (And.intro hm1 (And.intro hdW (And.intro hP21 (And.intro hP22 (And.intro (hlg.keep f3 (fun q => q)) (And.intro hro (And.intro hlbw (And.intro hmq (And.intro hs2 h512)))))))))))
   subst hrve
   rw [hW3] at HRD
   have HW3 := Lib.hid hW3
   clear o1 o2 hs hlb hlg hro hlbw hd1 hd1l hmay hrv f3 hpl hm1 hm2 hdW hP21 hP22 hN1 hmq hs2 h512 hW3
   go_wp2_with fail
   refine HRD.out.mono ?_
   rintro en w4 ⟨rfl, hm24, f4⟩
   rw [← HW3.out] at f4
   have hp9 : w2.heap.size + 2 ≠ w2.heap.size + 1 := by omega
   have hpl4 := H3.out.2.1.keep f4 (fun e => hp9 e)
   have hm14 := H3.out.2.2.1.keep f4 (fun e => by omega)
   have hd4 := H3.out.2.2.2.1.keep' f4 (fun b hb e => H3.out.2.2.2.2.2.1 (e ▸ hb))
   have hlg4 := H3.out.2.2.2.2.2.2.1.keep f4 (fun e => HLB.out e)
   have hF4 : Fr P w w4 := (H2.out.2.2.trans H3.out.1 (fun _ _ q => q.elim)).trans f4 (fun b hb q => by have := H3.out.2.2.2.2.2.2.2.2.2.2.1; omega)
   have H4 := Lib.hid (And.intro hpl4 (And.intro hm14 (And.intro hd4 (And.intro hlg4 (And.intro hF4 (And.intro hm24 H3.out.1.size))))))
   have hsz4 : w2.heap.size + 2 < W3.heap.size := H3.out.2.1.lt
   have HSZ := Lib.hid hsz4
   clear hm24 f4 hpl4 hm14 hd4 hlg4 hF4 hp9 HRD hmm hbp hsz4
   by_cases h0 : 0 < m
   · have h0' : (0 : Int) < (m : Int) := by omega
     have hqn : q ≠ [] := fun e9 => by
      have := H3.out.2.2.2.2.2.2.2.2.2.1
      rw [e9] at this
      simp at this
      omega
     have hpP : ¬ P2 (w2.heap.size + 2) := fun q => by have := (H2.out.1.1.2 _ q).2; omega
     have HCK := Lib.hid (plckpt_any H4.out.1 H4.out.2.2.1 H3.out.2.2.2.2.2.2.2.1.1 H4.out.2.2.2.1 hpP H3.out.2.2.2.2.2.1 H4.out.2.2.2.2.2.1 hN hz (by rw [HSS.out.2.2]; exact H0.out.2.2.2) (by omega))
     obtain ⟨ck, hck⟩ : ∃ ck, ck = ckOk d1 z (c + 1) N (rdF N q) := ⟨_, rfl⟩
     rw [← hck] at HCK
     have e1 : opOk d z c s N q = ck := by
      unfold opOk
      rw [HSS.out.1, ← HSS.out.2.1, ← hck]
      cases q with
      | nil => exact absurd rfl hqn
      | cons _ _ => rfl
     have e2 : opD d z c s N q = ckD d1 z (c + 1) N (rdF N q) := by
      unfold opD
      rw [if_pos ⟨HSS.out.1, hqn⟩, ← HSS.out.2.1]
     have HE := Lib.hid (And.intro e1 (And.intro e2 hqn))
     clear e1 e2 hqn hpP hck h0
     go_wp2_with fail
     refine HCK.out.mono ?_
     rintro en w5 ⟨rfl, hpl5, hok5, ⟨P5, hd5, hp5⟩, f5⟩
     have hsep5 : ∀ b, P5 b → P b ∨ w.heap.size ≤ b := fun b hb => by
      rcases hp5 b hb with y | y
      · exact H2.out.2.1 b y
      · have := H4.out.2.2.2.2.1.size; exact .inr (by omega)
     have hF5 : Fr P w w5 := H4.out.2.2.2.2.1.trans f5 (fun b hb q => by
      have h1 := H3.out.2.2.2.2.2.2.2.2.2.2.1
      have h2 := H3.out.2.2.2.2.2.2.2.2.1
      rcases q with q | q | q
      · rcases H2.out.2.1 b q with y | y
        · exact y
        · omega
      · omega
      · omega)
     have hm15 := H4.out.2.1.keep f5 (fun q => by
      rcases q with q | q | q
      · exact H3.out.2.2.2.2.1 q
      · have := H4.out.2.1.ne_blk H4.out.2.2.2.1; exact this q
      · omega)
     have hP51 : ¬ P5 w2.heap.size := fun q => by
      rcases hp5 _ q with y | y
      · exact H3.out.2.2.2.2.1 y
      · have := H4.out.2.1.lt; omega
     have hP52 : ¬ P5 (w2.heap.size + 1) := fun q => by
      rcases hp5 _ q with y | y
      · exact H3.out.2.2.2.2.2.1 y
      · have := H4.out.2.2.2.2.2.1.lt; omega
     have H5 := Lib.hid (And.intro hpl5 (And.intro hok5 (And.intro hd5 (And.intro hsep5 (And.intro hF5 (And.intro hm15 (And.intro hP51 hP52)))))))
     clear hpl5 hok5 hd5 hp5 f5 hsep5 hF5 hm15 hP51 hP52 HCK
     cases ck with
     | false =>
       simp only [Bool.false_eq_true, if_false]
       go_wp2_with fail
       refine bodyPost_ret (results_tmp2 rfl _ _ _) rfl ?_
       refine ⟨.pointer none, 10, rfl, ?_⟩
       rw [HCR.out]
       have e1 := HE.out.1
       exact ⟨P5, by rw [e1]; rfl, fun _ => rfl, (fun q => by rw [e1] at q; cases q), by rw [HE.out.2.1]; exact H5.out.2.2.1, H5.out.2.2.2.1, H5.out.2.2.2.2.1⟩
     | true =>
       simp only [if_true]
       go_wp2_with fail
       refine bodyPost_ret (results_tmp2 rfl _ _ _) rfl ?_
       refine ⟨_, 0, rfl, ?_⟩
       rw [HCR.out]
       have e1 := HE.out.1
       have hok := H5.out.2.1 (by simp)
       have hs2 := H3.out.2.2.2.2.2.2.2.2.2.2.1
       refine ⟨P5, by rw [e1]; rfl, (fun q => by rw [e1] at q; cases q), fun _ => ?_, by rw [HE.out.2.1]; exact H5.out.2.2.1, H5.out.2.2.2.1, H5.out.2.2.2.2.1⟩
       rw [if_neg HE.out.2.2, if_neg HE.out.2.2]
       exact ⟨w2.heap.size + 2, lb, w2.heap.size, w2.heap.size + 1, rfl, by omega, H3.out.2.2.2.2.2.2.2.2.1, by omega, by omega, by omega, H5.out.2.2.2.2.2.2.1, H5.out.2.2.2.2.2.2.2, H5.out.1, hok.1, H5.out.2.2.2.2.2.1, hok.2⟩
   · have h0' : ¬ (0 : Int) < (m : Int) := by omega
     have hqn : q = [] := by
      have := H3.out.2.2.2.2.2.2.2.2.2.1
      rw [List.length_map] at this
      exact List.length_eq_zero_iff.1 (by omega)
     have HE := Lib.hid hqn
     clear hqn h0
     go_wp2_with fail
     refine bodyPost_ret (results_tmp2 rfl _ _ _) rfl ?_
     refine ⟨_, 0, rfl, ?_⟩
     rw [HCR.out]
     have hqn := HE.out
     have e1 : opOk d z c s N q = true := by
      unfold opOk
      rw [HSS.out.1, hqn]
      rfl
     have e2 : opD d z c s N q = d1 := by
      unfold opD
      rw [if_neg (fun q => q.2 hqn), ← HSS.out.2.1]
     have he0 : e = 0 := by
      have := H3.out.2.2.2.2.2.2.2.1.1.laid
      rw [hqn] at this
      exact this
     have hs2 := H3.out.2.2.2.2.2.2.2.2.2.2.1
     have hm24 := H4.out.2.2.2.2.2.1
     have hlg4 := H4.out.2.2.2.1
     have e3 : rdF N q = fun _ => [] := by rw [hqn]; rfl
     rw [e3] at hm24
     rw [he0, show q.length = 0 by rw [hqn]; rfl] at hlg4
     refine ⟨P2, by rw [e1]; rfl, (fun q => by rw [e1] at q; cases q), fun _ => ?_, by rw [e2]; exact H4.out.2.2.1, H2.out.2.1, H4.out.2.2.2.2.1⟩
     rw [if_pos hqn, if_pos hqn]
     exact ⟨w2.heap.size + 2, lb, w2.heap.size, w2.heap.size + 1, rfl, by omega, H3.out.2.2.2.2.2.2.2.2.1, by omega, by omega, by omega, H3.out.2.2.2.2.1, H3.out.2.2.2.2.2.1, H4.out.1, hlg4, H4.out.2.1, hm24⟩
end
end Go.Proofs.YtcnlgbjkjlbmbaaGreat


