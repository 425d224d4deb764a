/- couponref02: Join. -/
import Derived.Test.YtbnegiiombnnaaaRth
import Derived.Test.YtbnegiiombnnaaaRto
import Derived.Deep.DeepCutAuto
namespace Go.Proofs.Ytbnegiiombnnaaa
open Go.RowKit

/-- What the reference's Join answers. -/
def RJoinR (w : World) (t : Nat × Nat) (o : Option (List UInt8)) (e : Ending) (w' : World) : Prop :=
  (o = none → e = .returned (.tuple #[.agg #[.int .u64 0, .int .i64 0], .slice none 0 0, .int .i64 0, .bool false])) ∧
    (∀ b, o = some b → ∃ A c, e = .returned (.tuple #[.agg #[.int .u64 (t.1 : Nat), .int .i64 (t.2 : Nat)], .slice A b.length c, .int .i64 (needN b.length : Nat), .bool true]) ∧ Rd w' A b.length b) ∧ Fr (fun _ => False) w w'
theorem results_rjoin {tmps : Array Value} {w : World} {g2 : Nat} {x y a b c : Value} (h2 : tmps.getD 2 undef = .pointer (some ⟨g2, 0, none⟩)) (h3 : tmps.getD 3 undef = a) (h4 : tmps.getD 4 undef = b) (h5 : tmps.getD 5 undef = c)
    (b2 : Blk w g2 24 #[x, y]) : (results Try.f15 tmps).run Try.prog w = .ok (.tuple #[.agg #[x, y], a, b, c]) w := by
  have e2 := run_loadVar_row (P := Try.prog) w g2 24 24 #[x, y] (0, 0) _ b2 Try.underlying24 rfl infoTag
  have h2' : tmps[2]?.getD undef = .pointer (some ⟨g2, 0, none⟩) := by simpa using h2
  have h3' : tmps[3]?.getD undef = a := by simpa using h3
  have h4' : tmps[4]?.getD undef = b := by simpa using h4
  have h5' : tmps[5]?.getD undef = c := by simpa using h5
  simp [results, Try.f15, h2', h3', h4', h5', asAddr, e2]
/-- 's[i:j]' of bytes, empty too. -/
theorem slice_any2 {w : World} {A : Option Addr} {n c : Nat} {l : List UInt8} (hr : Rd w A n l) (hnc : n ≤ c) (i j : Nat) (hij : i ≤ j) (hj : j ≤ n) :
    ∃ A', (∀ W, (Instr.slice 25 (.slice A n c) (some (.int .i64 (i : Int))) (some (.int .i64 (j : Int))) none).run Try.prog W = .ok (.slice A' (j - i) (c - i)) W) ∧ Rd w A' (j - i) ((l.drop i).take (j - i)) := by
  refine ⟨_, fun W => ?_, (hr.drop (k := i) (by omega) hnc).take (k := j - i) (by omega)⟩
  rw [run_slice_lh W 25 A n c (by kernel_rfl) .i64 .i64 i j (by omega) (by omega) (by omega), size25]
  simp [Result.andThen, sliced]
theorem slice_tail {w : World} {ad : Addr} {n c : Nat} {l : List UInt8} (hr : Rd w (some ad) n l) (hnc : n ≤ c) (i : Nat) (hi0 : 0 < i) (hi : i < n) :
    (∀ W, (Instr.slice 25 (.slice (some ad) n c) (some (.int .i64 (i : Int))) none none).run Try.prog W = .ok (.slice (some ⟨ad.block, ad.off + i, none⟩) (n - i) (c - i)) W) ∧ Rd w (some ⟨ad.block, ad.off + i, none⟩) (n - i) (l.drop i) := by
  have e : ad.add i = ⟨ad.block, ad.off + i, none⟩ := by simp [Addr.add]; omega
  have h := hr.drop (k := i) (by omega) hnc
  rw [if_neg (by omega), Option.map_some, e] at h
  refine ⟨fun W => ?_, h⟩
  rw [run_slice_l W 25 (some ad) n c (by kernel_rfl) .i64 i (by omega) (by omega), size25]
  have hci : c ≠ i := by omega
  simp [Result.andThen, sliced, hci, e]
theorem slice_cut {w : World} {ad : Addr} {n c : Nat} {l : List UInt8} (hr : Rd w (some ad) n l) (hnc : n ≤ c) (i j : Nat) (hi0 : 0 < i) (hi : i < n) (hij : i ≤ j) (hj : j ≤ n) :
    (∀ W, (Instr.slice 25 (.slice (some ad) n c) (some (.int .i64 (i : Int))) (some (.int .i64 (j : Int))) none).run Try.prog W = .ok (.slice (some ⟨ad.block, ad.off + i, none⟩) (j - i) (c - i)) W) ∧ Rd w (some ⟨ad.block, ad.off + i, none⟩) (j - i) ((l.drop i).take (j - i)) := by
  have e : ad.add i = ⟨ad.block, ad.off + i, none⟩ := by simp [Addr.add]; omega
  have h := (hr.drop (k := i) (by omega) hnc).take (k := j - i) (by omega)
  rw [if_neg (by omega), Option.map_some, e] at h
  refine ⟨fun W => ?_, h⟩
  rw [run_slice_lh W 25 (some ad) n c (by kernel_rfl) .i64 .i64 i j (by omega) (by omega) (by omega), size25]
  have hci : c ≠ i := by omega
  have hjn : ((j : Int) - (i : Int)).toNat = j - i := by omega
  simp [Result.andThen, sliced, hci, e, hjn]
theorem str_neq (a b : List UInt8) (w : World) : (binOp .neq 9 (.string ⟨a.toArray⟩) (.string ⟨b.toArray⟩)).run Try.prog w = .ok (.bool (!decide (a = b))) w := by
  by_cases h : a = b
  · subst h
    simp [binOp, Op.stringOp]
  · have hne : (⟨a.toArray⟩ : ByteArray) ≠ ⟨b.toArray⟩ := fun q => h (by simpa using q)
    simp [binOp, Op.stringOp, h, hne]

theorem and_fr {w1 W : World} {a : Addr} {b : Option Value} (h : Fr (fun _ => False) w1 W ∧ W.cell? a = b) : Fr (fun _ => False) w1 W := h.1
/-- A list of rows of bytes, and what is read of it wherever only new memory was made since. -/
structure Lists (w : World) (g n : Nat) (ls : List (List UInt8)) : Prop where
  len : ls.length = n
  at_ : ∀ W, Fr (fun _ => False) w W → ∀ i l, ls[i]? = some l → ∃ A c, W.cell? ⟨g, i, none⟩ = some (.slice A l.length c) ∧ l.length ≤ c ∧ Rd W A l.length l
theorem Lst.lists {w : World} {base : Nat} {v : Value} {ls : List (List UInt8)} (h : Lst w base v ls) (hn : 0 < ls.length) : ∃ g cap, v = .slice (some ⟨g, 0, none⟩) ls.length cap ∧ ls.length ≤ cap ∧ Lists w g ls.length ls := by
  obtain ⟨g, cap, hv, _, _, hc, _, hat⟩ := h.at_ hn
  exact ⟨g, cap, hv, hc, rfl, fun W f i l hi => by
    obtain ⟨A, c, h1, h2, h3, _⟩ := hat i l hi
    exact ⟨A, c, cell_new h1 f, h2, h3.keep f (fun _ _ q => q)⟩⟩
theorem Lists.new {w w' : World} {g n : Nat} {ls : List (List UInt8)} (h : Lists w g n ls) (f : Fr (fun _ => False) w w') : Lists w' g n ls := ⟨h.len, fun W k => h.at_ W (f.trans k (fun _ _ q => q))⟩

set_option maxRecDepth 100000 in
set_option maxHeartbeats 4000000 in
theorem rjoin_any {w : World} {v : Value} {ss : List (List UInt8)} (h : SecV w v ss) (hn : ss.length ≤ 1000) : Calls Try.prog 15 #[v] w (RJoinR w (tagAt ss) (refJ ss)) := by
  have hf0 : Fr (fun _ => False) w (w.alloc (.cells #[.int .u64 0, .int .i64 0] 24)) := (Fr.refl _ w).alloc _
  have hb0 : Blk (w.alloc (.cells #[.int .u64 0, .int .i64 0] 24)) w.heap.size 24 #[.int .u64 0, .int .i64 0] := Blk.new _ _ _
  have HP := Lib.hid (rparts_any (h.new hf0) hn)
  have H0 := Lib.hid (And.intro hf0 hb0)
  have hs128 : ∀ s ∈ ss, s.length = 128 := fun s hm => by
    obtain ⟨A, ca, _, _, _, h3⟩ := h
    obtain ⟨i, hi⟩ := List.getElem?_of_mem hm
    have hlt : i < ss.length := (List.getElem?_eq_some_iff.1 hi).1
    obtain ⟨b, off, _, hs⟩ := h3 (by omega)
    exact (hs i s hi).1
  have HS := Lib.hid hs128
  obtain ⟨A, ca, rfl, _, _, _⟩ := h
  obtain ⟨o, ho⟩ : ∃ o, o = refJ ss := ⟨_, rfl⟩
  obtain ⟨t, htt⟩ : ∃ t, t = tagAt ss := ⟨_, rfl⟩
  rw [← ho, ← htt]
  have HOO := Lib.hid ho
  have HTA := Lib.hid htt
  clear hf0 hb0 hs128 ho htt
  go_enter Try.func15, Try.ntmps15
  go_wp2_with fail
  (with_reducible refine HP.out.mono ?_)
  rintro e w1 ⟨v6, rfl, hl6, hf1⟩
  have H1 := Lib.hid (And.intro hl6 (And.intro (H0.out.1.trans hf1 (fun _ _ q => q)) (H0.out.2.keep hf1 (fun q => q))))
  clear hl6 hf1 HP H0
  rcases Nat.eq_zero_or_pos ss.length with h0 | h0
  · have hnil : o = none := by rw [HOO.out, List.eq_nil_of_length_eq_zero h0]; rfl
    have HNIL := Lib.hid hnil
    obtain ⟨A6, c6, hv6, _, _⟩ := H1.out.1.form
    rw [partsL_len, h0] at hv6
    subst hv6
    have g0 := H1.out.2.2.cell 0
    have g1 := H1.out.2.2.cell 1
    have k0 := H1.out.2.2.frozen 0
    have k1 := H1.out.2.2.frozen 1
    simp at g0 g1
    clear hnil h0
    go_wp2_with fail
    refine bodyPost_ret (results_rjoin (g2 := w.heap.size) rfl rfl rfl rfl ((H1.out.2.2.set_ 0 (.int .u64 0)).set_ 1 (.int .i64 0))) rfl ?_
    rw [HNIL.out]
    exact ⟨fun _ => rfl, (fun b hb => by cases hb), (H1.out.2.1.setCell (p := ⟨w.heap.size, 0, none⟩) (.inr (Nat.le_refl _)) _).setCell (p := ⟨w.heap.size, 1, none⟩) (.inr (Nat.le_refl _)) _⟩
  · obtain ⟨g, cap, rfl, hcap, hls⟩ := H1.out.1.lists (by rw [partsL_len]; omega)
    obtain ⟨M, hM⟩ : ∃ M, M = (partsL ss).length := ⟨_, rfl⟩
    rw [← hM] at hcap hls ⊢
    have hMN : M = 2 * ss.length := by rw [hM, partsL_len]
    have HM := Lib.hid hMN
    have HLS := Lib.hid hls
    have hMi : ((M : Int) == 0) = false := by simp; omega
    have hM9 : M ≤ 2000 ∧ 0 < M := by omega
    have hp0 : (partsL ss)[0]? = some (hv ss 0) := partsL_at (by omega)
    have hp64 : (hv ss 0).length = 64 := hv_len HS.out 0
    obtain ⟨A0, c0, hc0, hd0, hr0⟩ := hls.at_ w1 (Fr.refl _ _) 0 _ hp0
    rw [hp64] at hc0 hd0 hr0
    obtain ⟨ad0, _, rfl, _, _⟩ := hr0.at_ (k := 0) (by omega)
    have hTg := fun W (f : Fr (fun _ => False) w1 W) => rtag_any (w := W) (c := c0) (hr0.keep f (fun _ _ q => q)) hd0
    obtain ⟨ad1, e1, hs1, hr1⟩ := slice_part (c := c0) hr0 hd0 14 16 (by omega) (by omega)
    injection e1 with e1
    subst e1
    obtain ⟨ad1, e1, hs2, hr2⟩ := slice_part (c := c0) hr0 hd0 16 20 (by omega) (by omega)
    injection e1 with e1
    subst e1
    have ea1 : ad0.add 14 = ⟨ad0.block, ad0.off + 14, none⟩ := by simp [Addr.add]
    have ea2 : ad0.add 16 = ⟨ad0.block, ad0.off + 16, none⟩ := by simp [Addr.add]
    rw [ea1] at hs1 hr1
    rw [ea2] at hs2 hr2
    have hs1' : ∀ W, (Instr.slice 25 (.slice (some ad0) 64 c0) (some (.int .i64 14)) (some (.int .i64 16)) none).run Try.prog W = .ok (.slice (some ⟨ad0.block, ad0.off + 14, none⟩) 2 (c0 - 14)) W := hs1
    have hs2' : ∀ W, (Instr.slice 25 (.slice (some ad0) 64 c0) (some (.int .i64 16)) (some (.int .i64 20)) none).run Try.prog W = .ok (.slice (some ⟨ad0.block, ad0.off + 16, none⟩) 4 (c0 - 16)) W := hs2
    obtain ⟨x, hx⟩ : ∃ x, x = hdOf (hv ss 0) := ⟨_, rfl⟩
    have hxm : numOf ((((hv ss 0).drop 14)).take 2) = x.m := by rw [hx]; rfl
    have hxm9 : x.m < 65536 := by rw [← hxm]; exact numOf2_lt (by rw [List.length_take]; omega)
    obtain ⟨k, hk⟩ : ∃ k, k = numOf (((hv ss 0).drop 16).take 4) := ⟨_, rfl⟩
    have hk9 : k < 4294967296 := by
      rw [hk]
      exact Nat.lt_of_lt_of_le (numOf_lt _) (Nat.pow_le_pow_right (by omega) (by rw [List.length_take]; omega : (((hv ss 0).drop 16).take 4).length ≤ 4))
    have hg1 : ∀ W, Fr (fun _ => False) w1 W → Calls Try.prog 31 #[.slice (some ⟨ad0.block, ad0.off + 14, none⟩) 2 (c0 - 14)] W fun e w' => e = .returned (.int .u64 (x.m : Nat)) ∧ W = w' := fun W f => by
      rw [← hxm]
      exact rget_any (hr1.keep f (fun _ _ q => q)) (by omega)
    have hg2 : ∀ W, Fr (fun _ => False) w1 W → Calls Try.prog 31 #[.slice (some ⟨ad0.block, ad0.off + 16, none⟩) 4 (c0 - 16)] W fun e w' => e = .returned (.int .u64 (k : Nat)) ∧ W = w' := fun W f => by
      rw [hk]
      exact rget_any (hr2.keep f (fun _ _ q => q)) (by omega)
    have hrj : refJ ss = if mayT x.c (x.n : Int) = true ∧ 1 ≤ x.m ∧ x.m ≤ M then if k ≤ 32768 ∧ many k = x.m then if (List.range x.m).all (fun i => decide (halfL x.c x.n x.m (((pcsOf ss x.m).drop 4).take k) i = hv ss i)) = true then some (((pcsOf ss x.m).drop 4).take k) else none else none else none := by
      unfold refJ
      rw [if_neg (by intro q; rw [q] at h0; simp at h0), hk, hx, hMN]
    have htt : tagH (hv ss 0) = if mayT x.c (x.n : Int) then (x.c, x.n) else (0, 0) := by rw [hx]; rfl
    have hta : t = (x.c, x.n) := by rw [HTA.out, hx]; rfl
    have HO := Lib.hid (HOO.out.trans hrj)
    obtain ⟨⟨tc, tn⟩, ht⟩ : ∃ t, t = tagH (hv ss 0) := ⟨_, rfl⟩
    have HTT := Lib.hid (ht.trans htt)
    rw [← ht] at hTg
    obtain ⟨xc, xn, xp, xm⟩ := x
    simp only at hxm hxm9 hg1 HTT HO hta
    have HTA2 := Lib.hid hta
    have HTG := Lib.hid hTg
    have HG1 := Lib.hid hg1
    have HG2 := Lib.hid hg2
    have HSK : Hid (∀ W, Fr (fun _ => False) w1 W → Fr (fun _ => False) w1 W ∧ W.cell? ⟨g, 0, none⟩ = some (.slice (some ad0) 64 c0)) := Lib.hid fun W f => ⟨f, cell_new hc0 f⟩
    have hwm : IntKind.i64.wrap (xm : Int) = (xm : Int) := by simp [IntKind.wrap, IntKind.signed, IntKind.bits]; omega
    clear hM hMN hls hcap hp0 hp64 hc0 hr0 hTg hs1 hs2 hr1 hr2 ea1 ea2 hx hxm hk hg1 hg2 hrj htt hta ht h0
    go_upto_region 4 with fail
    go_cut [7, 8] (fun s7 s8 wx => ∃ g7 : Nat, s7 = .pointer (some ⟨g7, 0, none⟩) ∧ s8 = .int .i64 (xm : Nat) ∧ Hid (Blk wx g7 24 #[.int .u64 (tc : Nat), .int .i64 (tn : Nat)]) ∧ Hid (Fr (fun _ => False) w1 wx) ∧ w.heap.size < g7)
    case first =>
      go_region_held3 (fun w' => Fr (fun _ => False) w1 w' ∧ w'.cell? ⟨g, 0, none⟩ = some (.slice (some ad0) 64 c0))
        (first | (exact HSK.out _ (Fr.refl _ _).drew) | (exact HSK.out _ hfT) | (exact HSK.out _ (hfT.alloc _)) | (exact HSK.out _ (((Fr.refl _ _).drew).alloc _)) | (exact HSK.out _ (((Fr.refl _ _).alloc _).drew)) | (exact HSK.out _ ((hfT.setCell (p := ⟨w1.heap.size, 0, none⟩) (.inr (Nat.le_refl _)) _).setCell (p := ⟨w1.heap.size, 1, none⟩) (.inr (Nat.le_refl _)) _)))
        ((first
          | (go_at_call 17; refine (HTG.out _ (and_fr (by assumption))).mono ?_; rintro e wT ⟨rfl, hfT'⟩; have hfT := Fr.trans (F := fun _ => False) (and_fr (by assumption)) hfT' (fun _ _ q => q); first | (have hbk : Blk wT w1.heap.size 24 #[.int .u64 0, .int .i64 0] := (Blk.new w1.drew 24 #[.int .u64 0, .int .i64 0]).keep hfT' (fun q => q); have hq0 := hbk.cell 0; have hq1 := hbk.cell 1; have hz0 := hbk.frozen 0; have hz1 := hbk.frozen 1; simp at hq0 hq1; have HBK := Lib.hid hbk; clear hbk hfT') | clear hfT')
          | (go_at_call 31; refine (HG1.out _ (and_fr (by assumption))).mono ?_; rintro e w' ⟨rfl, rfl⟩)))
      all_goals
        go_wp2_with fail
        go_meet
        first
          | exact ⟨wT.heap.size, rfl, rfl, Lib.hid (Blk.new _ _ _), Lib.hid (hfT.alloc _), by have := H1.out.2.2.lt; have := hfT.size; omega⟩
          | exact ⟨w1.heap.size, rfl, rfl, Lib.hid ((HBK.out.set_ 0 _).set_ 1 _), Lib.hid ((hfT.setCell (p := ⟨w1.heap.size, 0, none⟩) (.inr (Nat.le_refl _)) _).setCell (p := ⟨w1.heap.size, 1, none⟩) (.inr (Nat.le_refl _)) _), H1.out.2.2.lt⟩
    case rest =>
      obtain ⟨g7, rfl, rfl, HB7, HF7, hg7⟩ := hcut
      clear hwm
      have HW7 := Lib.hid (And.intro (H1.out.2.1.trans HF7.out (fun _ _ q => q)) (H1.out.2.2.keep HF7.out (fun q => q)))
      have c0 := HB7.out.cell 0
      have c1 := HB7.out.cell 1
      simp at c0 c1
      go_wp2_with fail
      refine (rmay_any _ tc (tn : Int)).mono ?_
      rintro e w8 ⟨rfl, hf8⟩
      have H8 := Lib.hid (And.intro (HB7.out.keep hf8 (fun q => q)) (And.intro (HF7.out.trans hf8 (fun _ _ q => q)) (And.intro (HW7.out.1.trans hf8 (fun _ _ q => q)) (HW7.out.2.keep hf8 (fun q => q)))))
      clear hf8 HB7 HF7 HW7 c0 c1
      by_cases hbad : mayT xc (xn : Int) = true ∧ 1 ≤ xm ∧ xm ≤ M
      rotate_left
      · have HN : Hid (o = none) := Lib.hid (by rw [HO.out, if_neg hbad])
        cases hm : mayT xc (xn : Int) with
        | false =>
          have ht := HTT.out
          rw [hm] at ht
          have ht0 : tc = 0 ∧ tn = 0 := by injection ht with e1 e2; exact ⟨e1, e2⟩
          obtain ⟨rfl, rfl⟩ := ht0
          have hmt : mayT 0 ((0 : Nat) : Int) = false := rfl
          rw [hmt]
          clear hbad hm ht hmt
          have g0 := H8.out.2.2.2.cell 0
          have g1 := H8.out.2.2.2.cell 1
          have k0 := H8.out.2.2.2.frozen 0
          have k1 := H8.out.2.2.2.frozen 1
          simp at g0 g1
          go_wp2_with fail
          refine bodyPost_ret (results_rjoin (g2 := w.heap.size) rfl rfl rfl rfl ((H8.out.2.2.2.set_ 0 (.int .u64 0)).set_ 1 (.int .i64 0))) rfl ?_
          rw [HN.out]
          exact ⟨fun _ => rfl, (fun b hb => by cases hb), (H8.out.2.2.1.setCell (p := ⟨w.heap.size, 0, none⟩) (.inr (Nat.le_refl _)) _).setCell (p := ⟨w.heap.size, 1, none⟩) (.inr (Nat.le_refl _)) _⟩
        | true =>
          have ht := HTT.out
          rw [hm] at ht
          have ht0 : tc = xc ∧ tn = xn := by injection ht with e1 e2; exact ⟨e1, e2⟩
          obtain ⟨rfl, rfl⟩ := ht0
          rw [hm]
          by_cases hx1 : xm = 0
          · subst hx1
            clear hbad hm ht
            have g0 := H8.out.2.2.2.cell 0
            have g1 := H8.out.2.2.2.cell 1
            have k0 := H8.out.2.2.2.frozen 0
            have k1 := H8.out.2.2.2.frozen 1
            simp at g0 g1
            go_wp2_with fail
            refine bodyPost_ret (results_rjoin (g2 := w.heap.size) rfl rfl rfl rfl ((H8.out.2.2.2.set_ 0 (.int .u64 0)).set_ 1 (.int .i64 0))) rfl ?_
            rw [HN.out]
            exact ⟨fun _ => rfl, (fun b hb => by cases hb), (H8.out.2.2.1.setCell (p := ⟨w.heap.size, 0, none⟩) (.inr (Nat.le_refl _)) _).setCell (p := ⟨w.heap.size, 1, none⟩) (.inr (Nat.le_refl _)) _⟩
          · have hx2 : M < xm := by
              have : ¬ (1 ≤ xm ∧ xm ≤ M) := fun q => hbad ⟨hm, q⟩
              omega
            have hx3 : ¬ ((xm : Int) < 1) := by omega
            have hx4 : (M : Int) < (xm : Int) := by omega
            clear hbad hm ht
            have g0 := H8.out.2.2.2.cell 0
            have g1 := H8.out.2.2.2.cell 1
            have k0 := H8.out.2.2.2.frozen 0
            have k1 := H8.out.2.2.2.frozen 1
            simp at g0 g1
            go_wp2_with fail
            refine bodyPost_ret (results_rjoin (g2 := w.heap.size) rfl rfl rfl rfl ((H8.out.2.2.2.set_ 0 (.int .u64 0)).set_ 1 (.int .i64 0))) rfl ?_
            rw [HN.out]
            exact ⟨fun _ => rfl, (fun b hb => by cases hb), (H8.out.2.2.1.setCell (p := ⟨w.heap.size, 0, none⟩) (.inr (Nat.le_refl _)) _).setCell (p := ⟨w.heap.size, 1, none⟩) (.inr (Nat.le_refl _)) _⟩
      · obtain ⟨hm, hx1, hx2⟩ := hbad
        have ht := HTT.out
        rw [hm] at ht
        have ht0 : tc = xc ∧ tn = xn := by injection ht with e1 e2; exact ⟨e1, e2⟩
        obtain ⟨rfl, rfl⟩ := ht0
        rw [hm]
        have hx3 : ¬ ((xm : Int) < 1) := by omega
        have hx4 : ¬ ((M : Int) < (xm : Int)) := by omega
        have hx5 : xm ≠ 0 := by omega
        have HO2 : Hid (o = if k ≤ 32768 ∧ many k = xm then if (List.range xm).all (fun i => decide (halfL tc tn xm (((pcsOf ss xm).drop 4).take k) i = hv ss i)) = true then some (((pcsOf ss xm).drop 4).take k) else none else none) := Lib.hid (by rw [HO.out, if_pos ⟨hm, hx1, hx2⟩])
        have HMX := Lib.hid (And.intro hm (And.intro hx1 hx2))
        have hcl := (HSK.out _ H8.out.2.1).2
        have hwk : IntKind.i64.wrap (k : Int) = (k : Int) := by simp [IntKind.wrap, IntKind.signed, IntKind.bits]; omega
        have hMi0 : (0 : Int) < (M : Int) := by omega
        clear hm hx1 hx2 ht HO HTT
        go_wp2_with fail
        refine (HG2.out _ H8.out.2.1).mono ?_
        rintro e w' ⟨rfl, rfl⟩
        clear hcl
        by_cases hkk : k ≤ 32768 ∧ many k = xm
        rotate_left
        · have HN : Hid (o = none) := Lib.hid (by rw [HO2.out, if_neg hkk])
          by_cases hk1 : 32768 < k
          · have hk2 : decide ((32768 : Int) < (k : Int)) = true := by rw [decide_eq_true_eq]; omega
            clear hkk hk1
            have g0 := H8.out.2.2.2.cell 0
            have g1 := H8.out.2.2.2.cell 1
            have k0 := H8.out.2.2.2.frozen 0
            have k1 := H8.out.2.2.2.frozen 1
            simp at g0 g1
            go_wp2_with fail
            refine bodyPost_ret (results_rjoin (g2 := w.heap.size) rfl rfl rfl rfl ((H8.out.2.2.2.set_ 0 (.int .u64 0)).set_ 1 (.int .i64 0))) rfl ?_
            rw [HN.out]
            exact ⟨fun _ => rfl, (fun b hb => by cases hb), (H8.out.2.2.1.setCell (p := ⟨w.heap.size, 0, none⟩) (.inr (Nat.le_refl _)) _).setCell (p := ⟨w.heap.size, 1, none⟩) (.inr (Nat.le_refl _)) _⟩
          · have hk2 : decide ((32768 : Int) < (k : Int)) = false := by rw [decide_eq_false_iff_not]; omega
            have hk3 : many k ≠ xm := fun q => hkk ⟨by omega, q⟩
            have HMY := Lib.hid (rmany_any w8 k (by omega))
            have hk5 : ((many k : Int) == (xm : Int)) = false := by rw [beq_eq_false_iff_ne]; omega
            have hk6 : ((many k : Int) != (xm : Int)) = true := by rw [bne_iff_ne]; omega
            clear hkk hk1
            generalize many k = mk at *
            go_wp2_with fail
            (with_reducible refine HMY.out.mono ?_)
            rintro e w' ⟨rfl, rfl⟩
            have g0 := H8.out.2.2.2.cell 0
            have g1 := H8.out.2.2.2.cell 1
            have k0 := H8.out.2.2.2.frozen 0
            have k1 := H8.out.2.2.2.frozen 1
            simp at g0 g1
            go_wp2_with fail
            refine bodyPost_ret (results_rjoin (g2 := w.heap.size) rfl rfl rfl rfl ((H8.out.2.2.2.set_ 0 (.int .u64 0)).set_ 1 (.int .i64 0))) rfl ?_
            rw [HN.out]
            exact ⟨fun _ => rfl, (fun b hb => by cases hb), (H8.out.2.2.1.setCell (p := ⟨w.heap.size, 0, none⟩) (.inr (Nat.le_refl _)) _).setCell (p := ⟨w.heap.size, 1, none⟩) (.inr (Nat.le_refl _)) _⟩
        · obtain ⟨hk1, hk2⟩ := hkk
          have hk3 : decide ((32768 : Int) < (k : Int)) = false := by rw [decide_eq_false_iff_not]; omega
          have HMY := Lib.hid (rmany_any w8 k (by omega))
          rw [hk2] at HMY
          have HKK := Lib.hid (And.intro hk1 hk2)
          have hxm48 : k + 4 ≤ xm * 48 := by rw [← hk2]; unfold many; omega
          have hxM : xm ≤ M := HMX.out.2.2
          clear hk1 hk2
          go_wp2_with fail
          (with_reducible refine HMY.out.mono ?_)
          rintro e w' ⟨rfl, rfl⟩
          clear HMY hk3
          have HL8 := Lib.hid (HLS.out.new H8.out.2.1)
          go_wp2_with fail
          go_loopw [10, 11] (fun x i wr => ∃ (j : Nat) (v : Value), v = x ∧ i = .int .i64 j ∧ j ≤ xm ∧ Hid (wr.ownsRow w8.heap.size 5 1 v (pcsOf ss j).length (cellsB (pcsOf ss j))) ∧ Hid (Fr (fun _ => False) w8 wr)) (fun _ i _ => xm - (intOf i).toNat)
          case atStart => exact ⟨0, _, rfl, rfl, Nat.zero_le _, Lib.hid (World.ownsRow_nil _ _ _ _), Lib.hid (Fr.refl _ _)⟩
          case round =>
            obtain ⟨j, v, rfl, rfl, hj, HV, HF⟩ := hrel
            by_cases hlt : j < xm
            · obtain ⟨Aj, cj, hcj, hdj, hrj⟩ := HL8.out.at_ wr HF.out j (hv ss j) (partsL_at (by have := HM.out; omega))
              rw [hv_len HS.out j] at hcj hdj hrj
              obtain ⟨adj, _, rfl, _, _⟩ := hrj.at_ (k := 0) (by omega)
              obtain ⟨hsj, hrj2⟩ := slice_tail (c := cj) hrj hdj 16 (by omega) (by omega)
              have hsj' : ∀ W, (Instr.slice 25 (.slice (some adj) 64 cj) (some (.int .i64 16)) none none).run Try.prog W = .ok (.slice (some ⟨adj.block, adj.off + 16, none⟩) 48 (cj - 16)) W := hsj
              have HRJ := Lib.hid hrj2
              have hi0 : (0 : Int) ≤ (j : Int) := by omega
              have hi1 : (j : Int) < (M : Int) := by omega
              have HPL : Hid ((pcsOf ss j).length + 48 ≤ 140737488355328) := Lib.hid (by rw [pcsOf_len HS.out]; omega)
              clear hsj hrj hrj2 hj hdj
              go_wp2_with (refine wpList_more rfl (.tmp 64) (.tmp 69) rfl w8.heap.size v (pcsOf ss j) ((hv ss j).drop 16) rfl HV.out (some ⟨adj.block, adj.off + 16, none⟩) 48 (cj - 16) rfl HRJ.out HPL.out HF.out.size ?_; intro v2 w2 ho2 hg2 hat2; have H2 := Lib.hid (And.intro ho2 hg2); clear ho2 hg2 hat2)
              refine ⟨⟨j + 1, v2, rfl, by go_num, by omega, Lib.hid ?_, Lib.hid (HF.out.grown H2.out.2 (fun q hq => .inr (HV.out.lt q hq).1))⟩, by simp [intOf]; omega⟩
              rw [pcsOf_succ]
              exact H2.out.1
            · obtain rfl : j = xm := by omega
              have hpl : (pcsOf ss j).length = j * 48 := pcsOf_len HS.out j
              have hV := HV.out
              obtain ⟨A10, c10, rfl, hc10, _⟩ := own_slice hV
              rw [hpl] at hV hc10 ⊢
              have hrd := Rd.of_own hV
              obtain ⟨ad10, _, rfl, _, _⟩ := hrd.at_ (k := 0) (by omega)
              obtain ⟨hsc, hrc⟩ := slice_cut (c := c10) hrd hc10 4 (4 + k) (by omega) (by omega) (by omega) (by omega)
              have e4 : 4 + k - 4 = k := by omega
              have e5 : ((4 + k : Nat) : Int) = 4 + (k : Int) := by omega
              rw [e4, e5] at hsc
              rw [e4] at hrc
              have hsc' : ∀ W, (Instr.slice 25 (.slice (some ad10) (j * 48) c10) (some (.int .i64 4)) (some (.int .i64 (4 + (k : Int)))) none).run Try.prog W = .ok (.slice (some ⟨ad10.block, ad10.off + 4, none⟩) k (c10 - 4)) W := hsc
              obtain ⟨b, hb⟩ : ∃ b, b = ((pcsOf ss j).drop 4).take k := ⟨_, rfl⟩
              rw [← hb] at hrc
              have hbl : b.length = k := hrc.len
              have HO3 := Lib.hid HO2.out
              rw [← hb] at HO3
              have HRC := Lib.hid (And.intro hrc hbl)
              have HAD : Hid (w.heap.size < ad10.block) := Lib.hid (by have := (own_blk_ge hV ad10 rfl).1; have := H8.out.2.2.2.lt; omega)
              have b7 := H8.out.1.keep HF.out (fun q => q)
              have c70 := b7.cell 0
              have c71 := b7.cell 1
              simp at c70 c71
              have hmx := HMX.out.1
              have HRH := Lib.hid (rhalves_any (cb := c10 - 4) hrc HKK.out.1 tc tn (by unfold mayT at hmx; simp at hmx; omega) (by unfold mayT at hmx; simp at hmx; omega))
              have HW9 := Lib.hid (And.intro b7 (And.intro (H8.out.2.2.1.trans HF.out (fun _ _ q => q)) (And.intro (H8.out.2.2.2.keep HF.out (fun q => q)) (HL8.out.new HF.out))))
              clear hpl hV hc10 hrd hsc hrc e4 e5 hb hbl b7 hmx hlt hj HV HL8 H8
              generalize wr = w9 at *
              go_wp2_with fail
              (with_reducible refine HRH.out.mono ?_)
              rintro e w10 ⟨v12, rfl, hl12, hf10⟩
              obtain ⟨g12, cap12, rfl, hcap12, hls12⟩ := hl12.lists (by rw [halvesL_len]; exact many_pos _)
              have hml : many b.length = j := by rw [HRC.out.2]; exact HKK.out.2
              rw [halvesL_len, hml] at hcap12 hls12 ⊢
              have HL12 := Lib.hid hls12
              have HML := Lib.hid hml
              have HW10 := Lib.hid (And.intro (HW9.out.1.keep hf10 (fun q => q)) (And.intro (HW9.out.2.1.trans hf10 (fun _ _ q => q)) (And.intro (HW9.out.2.2.1.keep hf10 (fun q => q)) (And.intro (HW9.out.2.2.2.new hf10) (HRC.out.1.keep hf10 (fun _ _ q => q))))))
              clear hl12 hf10 hls12 hml hsc' c70 c71 HRH HW9 HF
              go_wp2_with fail
              go_loopw [13] (fun x wr => ∃ i : Nat, x = .int .i64 i ∧ i ≤ j ∧ Hid (∀ q, q < i → halfL tc tn j b q = hv ss q) ∧ Hid (Fr (fun _ => False) w10 wr)) (fun x _ => j - (intOf x).toNat)
              case atStart => exact ⟨0, rfl, Nat.zero_le _, Lib.hid (fun q hq => by omega), Lib.hid (Fr.refl _ _)⟩
              case round =>
                obtain ⟨i, rfl, hi, HE, HFi⟩ := hrel
                by_cases hlt : i < j
                · obtain ⟨Aw, cw, hcw, hdw, hrw⟩ := HL12.out.at_ wr HFi.out i (halfL tc tn j b i) (by rw [halvesL_at (by rw [HML.out]; exact hlt), HML.out])
                  obtain ⟨Ap, cp, hcp, hdp, hrp⟩ := HW10.out.2.2.2.1.at_ wr HFi.out i (hv ss i) (partsL_at (by have := HM.out; omega))
                  have hl1 : (halfL tc tn j b i).length = 64 := halfL_len (by rw [HML.out]; exact hlt)
                  rw [hl1] at hcw hdw hrw
                  rw [hv_len HS.out i] at hcp hdp hrp
                  have HC : Hid (∀ w', Fr (fun _ => False) wr w' → w'.cell? ⟨g12, i, none⟩ = some (.slice Aw 64 cw) ∧ w'.cell? ⟨g, i, none⟩ = some (.slice Ap 64 cp) ∧
                      (convert 25 9 (.slice Aw 64 cw)).run Try.prog w' = .ok (.string ⟨(halfL tc tn j b i).toArray⟩) w' ∧ (convert 25 9 (.slice Ap 64 cp)).run Try.prog w' = .ok (.string ⟨(hv ss i).toArray⟩) w') := Lib.hid fun w' f =>
                    ⟨cell_new hcw f, cell_new hcp f, conv_string (P := Try.prog) 25 9 5 (hrw.keep f (fun _ _ q => q)) Try.underlying25 Try.underlying5 Try.underlying9,
                      conv_string (P := Try.prog) 25 9 5 (hrp.keep f (fun _ _ q => q)) Try.underlying25 Try.underlying5 Try.underlying9⟩
                  have HLT := Lib.hid hlt
                  have hi0 : (0 : Int) ≤ (i : Int) := by omega
                  have hi1 : (i : Int) < (j : Int) := by omega
                  have hi2 : (i : Int) < (M : Int) := by omega
                  clear hcw hdw hrw hcp hdp hrp hl1 hi hlt
                  go_wp2_with fail
                  refine wp_region_held_drew (S := fun w' => Fr (fun _ => False) wr w') (by kernel_rfl) ((Fr.refl _ _).drew) (fun hS0 => ?_)
                  refine anyH_take 0 83 (.slice (some ⟨g12, 0, none⟩) j cap12) rfl rfl (by kernel_rfl) (by kernel_rfl) (by kernel_rfl) (fun _ _ _ h => h) (.inl ⟨by rfl, fun w'' hS => by go_simp⟩) hS0 ?_
                  (simp only [List.setIfInBounds_toArray, List.set_cons_zero, List.set_cons_succ])
                  refine anyH_take 1 84 (.int .i64 (i : Nat)) rfl rfl (by kernel_rfl) (by kernel_rfl) (by kernel_rfl) (fun _ _ _ h => h) (.inl ⟨by rfl, fun w'' hS => by go_simp⟩) hS0 ?_
                  (simp only [List.setIfInBounds_toArray, List.set_cons_zero, List.set_cons_succ])
                  refine anyH_take 2 85 (.pointer (some ⟨g12, i, none⟩)) rfl rfl (by kernel_rfl) (by kernel_rfl) (by kernel_rfl) (fun _ _ _ h => h) (.inl ⟨by rfl, fun w'' hS => by go_simp⟩) hS0 ?_
                  (simp only [List.setIfInBounds_toArray, List.set_cons_zero, List.set_cons_succ])
                  refine anyH_take 3 86 (.slice Aw 64 cw) rfl rfl (by kernel_rfl) (by kernel_rfl) (by kernel_rfl) (fun _ _ _ h => h) (.inl ⟨by rfl, fun w'' hS => by have q0 := (HC.out w'' hS).1; go_simp⟩) hS0 ?_
                  (simp only [List.setIfInBounds_toArray, List.set_cons_zero, List.set_cons_succ])
                  refine anyH_take 4 87 (.string ⟨(halfL tc tn j b i).toArray⟩) rfl rfl (by kernel_rfl) (by kernel_rfl) (by kernel_rfl) (fun _ _ _ h => h) (.inl ⟨by rfl, fun w'' hS => by have q0 := (HC.out w'' hS).2.2.1; go_simp⟩) hS0 ?_
                  (simp only [List.setIfInBounds_toArray, List.set_cons_zero, List.set_cons_succ])
                  refine anyH_take 5 88 (.slice (some ⟨g, 0, none⟩) M cap) rfl rfl (by kernel_rfl) (by kernel_rfl) (by kernel_rfl) (fun _ _ _ h => h) (.inl ⟨by rfl, fun w'' hS => by go_simp⟩) hS0 ?_
                  (simp only [List.setIfInBounds_toArray, List.set_cons_zero, List.set_cons_succ])
                  refine anyH_take 6 89 (.int .i64 (i : Nat)) rfl rfl (by kernel_rfl) (by kernel_rfl) (by kernel_rfl) (fun _ _ _ h => h) (.inl ⟨by rfl, fun w'' hS => by go_simp⟩) hS0 ?_
                  (simp only [List.setIfInBounds_toArray, List.set_cons_zero, List.set_cons_succ])
                  refine anyH_take 7 90 (.pointer (some ⟨g, i, none⟩)) rfl rfl (by kernel_rfl) (by kernel_rfl) (by kernel_rfl) (fun _ _ _ h => h) (.inl ⟨by rfl, fun w'' hS => by go_simp⟩) hS0 ?_
                  (simp only [List.setIfInBounds_toArray, List.set_cons_zero, List.set_cons_succ])
                  refine anyH_take 8 91 (.slice Ap 64 cp) rfl rfl (by kernel_rfl) (by kernel_rfl) (by kernel_rfl) (fun _ _ _ h => h) (.inl ⟨by rfl, fun w'' hS => by have q0 := (HC.out w'' hS).2.1; go_simp⟩) hS0 ?_
                  (simp only [List.setIfInBounds_toArray, List.set_cons_zero, List.set_cons_succ])
                  refine anyH_take 9 92 (.string ⟨(hv ss i).toArray⟩) rfl rfl (by kernel_rfl) (by kernel_rfl) (by kernel_rfl) (fun _ _ _ h => h) (.inl ⟨by rfl, fun w'' hS => by have q0 := (HC.out w'' hS).2.2.2; go_simp⟩) hS0 ?_
                  (simp only [List.setIfInBounds_toArray, List.set_cons_zero, List.set_cons_succ])
                  refine anyH_take 10 93 (.bool (!decide (halfL tc tn j b i = hv ss i))) rfl rfl (by kernel_rfl) (by kernel_rfl) (by kernel_rfl) (fun _ _ _ h => h) (.inl ⟨by rfl, fun w'' hS => by have q0 := str_neq (halfL tc tn j b i) (hv ss i) w''; (go_simp; rw [Bool.eq_iff_iff]; simp)⟩) hS0 ?_
                  (simp only [List.setIfInBounds_toArray, List.set_cons_zero, List.set_cons_succ])
                  refine wpAnyH_done (by kernel_rfl) ?_ _
                  by_cases heq : halfL tc tn j b i = hv ss i
                  · have hd1 : (!decide (halfL tc tn j b i = hv ss i)) = false := by simp [heq]
                    rw [hd1]
                    have HEQ := Lib.hid heq
                    clear hd1 heq HC
                    have HF2 := Lib.hid (HFi.out.trans hS0 (fun _ _ q => q))
                    clear hS0
                    go_wp2_with fail
                    refine ⟨⟨i + 1, by go_num, HLT.out, Lib.hid (fun q hq => ?_), HF2⟩, by have := HLT.out; simp [intOf]; omega⟩
                    rcases Nat.lt_or_ge q i with h | h
                    · exact HE.out q h
                    · have e : q = i := by omega
                      rw [e]
                      exact HEQ.out
                  · have hd1 : (!decide (halfL tc tn j b i = hv ss i)) = true := by simp [heq]
                    rw [hd1]
                    have HN : Hid (o = none) := Lib.hid (by
                      rw [HO3.out, if_pos HKK.out, if_neg]
                      intro q
                      exact heq (of_decide_eq_true (List.all_eq_true.1 q i (List.mem_range.2 HLT.out))))
                    clear hd1 heq HC
                    have HF2 := Lib.hid (And.intro (HW10.out.2.1.trans (HFi.out.trans hS0 (fun _ _ q => q)) (fun _ _ q => q)) (HW10.out.2.2.1.keep (HFi.out.trans hS0 (fun _ _ q => q)) (fun q => q)))
                    clear hS0
                    generalize wr.drew = wz at *
                    have g0 := HF2.out.2.cell 0
                    have g1 := HF2.out.2.cell 1
                    have k0 := HF2.out.2.frozen 0
                    have k1 := HF2.out.2.frozen 1
                    simp at g0 g1
                    go_wp2_with fail
                    refine bodyPost_ret (results_rjoin (g2 := w.heap.size) rfl rfl rfl rfl ((HF2.out.2.set_ 0 (.int .u64 0)).set_ 1 (.int .i64 0))) rfl ?_
                    rw [HN.out]
                    exact ⟨fun _ => rfl, (fun b hb => by cases hb), (HF2.out.1.setCell (p := ⟨w.heap.size, 0, none⟩) (.inr (Nat.le_refl _)) _).setCell (p := ⟨w.heap.size, 1, none⟩) (.inr (Nat.le_refl _)) _⟩
                · obtain rfl : i = j := by omega
                  have HY : Hid (o = some b) := Lib.hid (by
                    rw [HO3.out, if_pos HKK.out, if_pos]
                    rw [List.all_eq_true]
                    intro q hq
                    exact decide_eq_true (HE.out q (List.mem_range.1 hq)))
                  have b7 := HW10.out.1.keep HFi.out (fun q => q)
                  have b2 := HW10.out.2.2.1.keep HFi.out (fun q => q)
                  have c70 := b7.cell 0
                  have c71 := b7.cell 1
                  have g0 := b2.cell 0
                  have g1 := b2.cell 1
                  have k0 := b2.frozen 0
                  have k1 := b2.frozen 1
                  simp at c70 c71 g0 g1
                  have hne7 : g7 ≠ w.heap.size := by omega
                  have hlt7 := b7.lt
                  have HC7 : Hid (∀ W, Fr (fun q => q = w.heap.size) wr W → W.cell? ⟨g7, 0, none⟩ = some (.int .u64 (tc : Nat)) ∧ W.cell? ⟨g7, 1, none⟩ = some (.int .i64 (tn : Nat))) := Lib.hid fun W f => ⟨(f.cell hlt7 hne7).trans c70, (f.cell hlt7 hne7).trans c71⟩
                  have HW11 := Lib.hid (And.intro b2 (And.intro (HW10.out.2.1.trans HFi.out (fun _ _ q => q)) (HW10.out.2.2.2.2.keep HFi.out (fun _ _ q => q))))
                  clear b7 b2 hlt hi HE HW10 HFi hne7 hlt7 c70 c71 g0 g1 k0 k1
                  generalize wr = w11 at *
                  go_wp2_with fail
                  refine wp_region_held_drew (S := fun w' => Fr (fun q => q = w.heap.size) w11 w' ∧ ∃ x y, Blk w' w.heap.size 24 #[x, y]) (by kernel_rfl) (⟨(Fr.refl _ _).drew, _, _, HW11.out.1.keep (F := fun _ => False) ((Fr.refl _ _).drew) (fun q => q)⟩) (fun hS0 => ?_)
                  refine anyH_take 0 95 (.agg #[.int .u64 (tc : Nat), .int .i64 (tn : Nat)]) rfl rfl (by kernel_rfl) (by kernel_rfl) (by kernel_rfl) (fun _ _ _ h => h) (.inl ⟨by rfl, fun w'' hS => by have q0 := HC7.out w'' hS.1; go_simp⟩) hS0 ?_
                  (simp only [List.setIfInBounds_toArray, List.set_cons_zero, List.set_cons_succ])
                  refine anyH_take 1 96 (.slice (some ⟨ad10.block, ad10.off + 4, none⟩) k (c10 - 4)) rfl rfl (by kernel_rfl) (by kernel_rfl) (by kernel_rfl) (fun _ _ _ h => h) (.inl ⟨by rfl, fun w'' hS => by go_simp⟩) hS0 ?_
                  (simp only [List.setIfInBounds_toArray, List.set_cons_zero, List.set_cons_succ])
                  refine anyH_take 2 97 (.int .i64 (k : Nat)) rfl rfl (by kernel_rfl) (by kernel_rfl) (by kernel_rfl) (fun _ _ _ h => h) (.inl ⟨by rfl, fun w'' hS => by go_simp⟩) hS0 ?_
                  (simp only [List.setIfInBounds_toArray, List.set_cons_zero, List.set_cons_succ])
                  refine anyH_one 3 98 (.int .i64 (needN (k : Nat) : Nat)) (by kernel_rfl) (tame_call 98 rfl rfl (by rfl) (fun w'' hS => by go_simp) (fun w'' hS => ((rneed_any w'' (k : Nat)).mono fun e w3 he => ⟨he.1, he.2 ▸ hS⟩))) hS0 (fun wz hS0 => ?_)
                  (simp only [List.setIfInBounds_toArray, List.set_cons_zero, List.set_cons_succ])
                  obtain ⟨hfz, x, y, hbz⟩ := hS0
                  have z0 := hbz.cell 0
                  have z1 := hbz.cell 1
                  have z2 := hbz.frozen 0
                  have z3 := hbz.frozen 1
                  simp at z0 z1
                  have hbs := (hbz.set_ 0 (.int .u64 (tc : Nat))).set_ 1 (.int .i64 (tn : Nat))
                  have hfs : Fr (fun q => q = w.heap.size) w11 ((wz.setCell ⟨w.heap.size, 0, none⟩ (.int .u64 (tc : Nat))).setCell ⟨w.heap.size, 1, none⟩ (.int .i64 (tn : Nat))) := (hfz.setCell (p := ⟨w.heap.size, 0, none⟩) (.inl rfl) _).setCell (p := ⟨w.heap.size, 1, none⟩) (.inl rfl) _
                  refine anyH_skip 4 ((wz.setCell ⟨w.heap.size, 0, none⟩ (.int .u64 (tc : Nat))).setCell ⟨w.heap.size, 1, none⟩ (.int .i64 (tn : Nat))) (by kernel_rfl) rfl rfl (by rfl) (by go_simp) ⟨hfs, _, _, hbs⟩ ?_
                  have hS0 : Fr (fun q => q = w.heap.size) w11 ((wz.setCell ⟨w.heap.size, 0, none⟩ (.int .u64 (tc : Nat))).setCell ⟨w.heap.size, 1, none⟩ (.int .i64 (tn : Nat))) ∧ ∃ x y, Blk ((wz.setCell ⟨w.heap.size, 0, none⟩ (.int .u64 (tc : Nat))).setCell ⟨w.heap.size, 1, none⟩ (.int .i64 (tn : Nat))) w.heap.size 24 #[x, y] := ⟨hfs, _, _, hbs⟩
                  refine anyH_take 5 3 (.slice (some ⟨ad10.block, ad10.off + 4, none⟩) k (c10 - 4)) rfl rfl (by kernel_rfl) (by kernel_rfl) (by kernel_rfl) (fun _ _ _ h => h) (.inl ⟨by rfl, fun w'' hS => by go_simp⟩) hS0 ?_
                  (simp only [List.setIfInBounds_toArray, List.set_cons_zero, List.set_cons_succ])
                  refine anyH_take 6 4 (.int .i64 (needN (k : Nat) : Nat)) rfl rfl (by kernel_rfl) (by kernel_rfl) (by kernel_rfl) (fun _ _ _ h => h) (.inl ⟨by rfl, fun w'' hS => by go_simp⟩) hS0 ?_
                  (simp only [List.setIfInBounds_toArray, List.set_cons_zero, List.set_cons_succ])
                  refine anyH_take 7 5 (.bool true) rfl rfl (by kernel_rfl) (by kernel_rfl) (by kernel_rfl) (fun _ _ _ h => h) (.inl ⟨by rfl, fun w'' hS => by go_simp⟩) hS0 ?_
                  (simp only [List.setIfInBounds_toArray, List.set_cons_zero, List.set_cons_succ])
                  refine wpAnyH_done (by kernel_rfl) ?_ _
                  have HZ := Lib.hid (And.intro hbs hfs)
                  clear hS0 hbs hfs hbz hfz z0 z1 z2 z3
                  generalize (wz.setCell ⟨w.heap.size, 0, none⟩ (.int .u64 (tc : Nat))).setCell ⟨w.heap.size, 1, none⟩ (.int .i64 (tn : Nat)) = wy at *
                  go_wp2_with fail
                  refine bodyPost_ret (results_rjoin (g2 := w.heap.size) rfl rfl rfl rfl HZ.out.1) rfl ?_
                  rw [HY.out, HTA2.out]
                  refine ⟨(fun q => by cases q), (fun b' hb' => ?_), ?_⟩
                  · injection hb' with hb'
                    subst hb'
                    have hbl := HRC.out.2
                    refine ⟨some ⟨ad10.block, ad10.off + 4, none⟩, c10 - 4, by rw [hbl]; rfl, ?_⟩
                    rw [hbl]
                    exact HW11.out.2.2.keep HZ.out.2 (fun ad e q => by injection e with e; subst e; have := HAD.out; simp at q; omega)
                  · exact HW11.out.2.1.trans HZ.out.2 (fun q hq e => by omega)
end Go.Proofs.Ytbnegiiombnnaaa
