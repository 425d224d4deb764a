/- couponlaw03.DiskTears. -/
import Derived.Test.YtcpbhpddemflcaaOne
namespace Go.Proofs.Ytcpbhpddemflcaa
open Go.RowKit Go.Maps

set_option maxRecDepth 100000 in
set_option maxHeartbeats 4000000 in
theorem tears_any {W : World} {x : List UInt8} (hx : x.length = 128) {v : Value} {ss : List (List UInt8)} (h : SecV W v ss) (hm : ss.length ≤ 12) {pick : Int} (hp0 : -9223372036854775808 ≤ pick) (hp1 : pick ≤ 9223372036854775807) :
    Calls Try.prog 5 #[av x, v, .int .i64 pick] W fun e w' => e = .returned (.bool true) ∧ Fr (fun _ => False) W w' := by
  obtain ⟨B, hB⟩ : ∃ B, B = W.heap.size + 1 := ⟨_, rfl⟩
  have HAl := Lib.hid h.all128
  have hb0 := Blk.new W 34 (cellsB x).toArray
  have fa := (Fr.refl (fun _ => False) W).alloc (.cells (cellsB x).toArray 34)
  have hsa : (W.alloc (.cells (cellsB x).toArray 34)).heap.size = B := by
    rw [hB]
    show (W.heap.push _).size = _
    simp
  obtain ⟨A, ca, hv, hv1, hv2, hv3⟩ := h
  subst hv
  obtain ⟨m, hmm⟩ : ∃ m, m = ss.length := ⟨_, rfl⟩
  rw [← hmm] at hm hv1 hv3 ⊢
  have HM := Lib.hid (And.intro hmm (And.intro hv3 hB))
  have H0 := Lib.hid (And.intro hb0 (And.intro fa hsa))
  have HX := Lib.hid hx
  clear hv1 hv2 hv3 hmm hb0 fa hx hB
  have hmi : ¬ ((m : Int) > 12) := by omega
  have hmi' : ¬ (12 < (m : Int)) := by omega
  go_enter Try.func5, Try.ntmps5
  go_wp2_with (refine wpList_put rfl 34 _ rfl _ rfl ?_)
  have HBg := begin_any (W.alloc (.cells (cellsB x).toArray 34)) (n := 1) (by omega) (by omega)
  rw [hsa] at HBg
  refine HBg.mono ?_
  rintro e w2 ⟨g, gr, rfl, ⟨P, rv, rvs, hd, _, _⟩, f2⟩
  have hb2 := H0.out.1.keep f2 (fun q => q)
  have HF2 := Lib.hid (H0.out.2.1.trans f2 (fun _ _ q => q))
  have HR2 := Lib.hid (sec_range HX.out hb2)
  have hf2 := f2.size
  rw [hsa] at hf2
  have hW2 : W.heap.size < B := by have := HM.out.2.2; omega
  have hkd : Kd (newD 1) (nought 128) [] := kd_new
  have HWr := awrite_any hd (i := 0) (by simp [newD]) HX.out (by simp [newD])
  rw [hkd.alive'] at HWr
  have HD2 := Lib.hid (And.intro hd (And.intro (hkd.write (s := x)) hb2))
  clear hd HBg hb2 f2 hsa hkd
  go_wp2_with (refine wpList_load_want (by rfl) 34 _ rfl W.heap.size 0 rfl (cellsB x) _ HR2.out Try.underlying34 rfl (by rw [infoSector, cellsB_len, HX.out]) ?_)
  refine HWr.mono ?_
  rintro e w3 ⟨rfl, ⟨P3, hd3, hP3⟩, f3⟩
  have hkd3 := HD2.out.2.1
  have hFl := aflush_any hd3
  rw [hkd3.alive'] at hFl
  have HF3 := Lib.hid (HF2.out.trans f3 (fun b hb q => by have := (HD2.out.1.2 b q).1; omega))
  have hb3 := HD2.out.2.2.keep f3 (fun q => by have := (HD2.out.1.2 _ q).1; omega)
  have HB3 := Lib.hid (And.intro hb3 hd3)
  clear hd3 f3 HWr HR2 HF2 hb3 hP3 hf2
  go_wp2_with fail
  refine hFl.mono ?_
  rintro e w4 ⟨rfl, hd4, f4⟩
  have HF4 := Lib.hid (HF3.out.trans f4 (fun b hb q => by have := (HB3.out.2.2 b q).1; omega))
  have hb4 := HB3.out.1.keep f4 (fun q => by have := (HB3.out.2.2 _ q).1; omega)
  have HR4 := Lib.hid (sec_range HX.out hb4)
  have HD4 := Lib.hid (And.intro hd4 hkd3.flushed)
  clear hd4 f4 hFl HF3 hkd3 hb4
  go_wp2_with (first
    | (refine wpList_load_mid rfl 34 _ rfl W.heap.size 0 rfl (cellsB x) _ HR4.out Try.underlying34 rfl (by rw [infoSector, cellsB_len, HX.out]) ?_)
    | (refine wpList_build_sec rfl _ rfl HX.out rfl ?_))
  have hown5 := own_one (Blk.new w4 34 (cellsB x).toArray) HX.out
  have fa5 := (Fr.refl (fun _ => False) w4).alloc (.cells (cellsB x).toArray 34)
  have H5 : Hid ((w4.alloc (.cells (cellsB x).toArray 34)).ownsRow 0 34 128 (.slice (some ⟨w4.heap.size, 0, none⟩) 1 1) (0 + 1) (cellsB (x :: ss.take 0).flatten) ∧ (∃ P d, DAt (w4.alloc (.cells (cellsB x).toArray 34)) B P g d ∧ Kd d x [] ∧ ∀ b, (Value.slice (some ⟨w4.heap.size, 0, none⟩) 1 1).ownBlock = some b → B ≤ b ∧ ¬ P b) ∧ Fr (fun _ => False) W (w4.alloc (.cells (cellsB x).toArray 34))) :=
    Lib.hid ⟨by simpa using hown5, ⟨P3, _, HD4.out.1.new fa5, HD4.out.2, fun b hb => by
      have e : w4.heap.size = b := by simpa [Value.ownBlock] using hb
      refine ⟨?_, fun q => ?_⟩
      · have := HD4.out.1.g_lt.2
        omega
      · have := (HD4.out.1.2 b q).2
        omega⟩, HF4.out.trans fa5 (fun _ _ q => q)⟩
  generalize w4.alloc (.cells (cellsB x).toArray 34) = w5 at *
  obtain ⟨al0, hal0⟩ : ∃ al, al = Value.slice (some ⟨w4.heap.size, 0, none⟩) 1 1 := ⟨_, rfl⟩
  rw [← hal0] at H5 ⊢
  clear hown5 fa5 HD4 HF4 HR4 hal0
  go_loopw [10, 11] (fun al i wr => ∃ (k : Nat) (Aa : Option Addr) (c : Nat), i = .int .i64 k ∧ al = .slice Aa (k + 1) c ∧ k ≤ m ∧ Hid (wr.ownsRow 0 34 128 al (k + 1) (cellsB (x :: ss.take k).flatten)) ∧ Hid (∃ P d r, DAt wr B P g d ∧ Kd d r (if k = 0 then [] else x :: ss.take k) ∧ (k = 0 → r = x) ∧ ∀ b, al.ownBlock = some b → B ≤ b ∧ ¬ P b) ∧ Hid (Fr (fun _ => False) W wr)) (fun _ i _ => m - (intOf i).toNat)
  case atStart =>
    obtain ⟨Aa, c, e1, _, _⟩ := own_slice H5.out.1
    obtain ⟨P5, d5, h1, h2, h3⟩ := H5.out.2.1
    exact ⟨0, Aa, c, rfl, e1, Nat.zero_le _, Lib.hid H5.out.1, Lib.hid ⟨P5, d5, x, h1, h2, fun _ => rfl, h3⟩, Lib.hid H5.out.2.2⟩
  case round =>
    obtain ⟨k, Aa, c, rfl, rfl, hk, HRw, HDd, HF⟩ := hrel
    clear H5
    by_cases hlt : k < m
    · obtain ⟨b, off, rfl, hsec⟩ := HM.out.2.1 (by omega)
      obtain ⟨s, hs⟩ : ∃ s, ss[k]? = some s := ⟨_, List.getElem?_eq_getElem (by have := HM.out.1; omega)⟩
      obtain ⟨hsl, hsr⟩ := (hsec.keep HF.out (fun q => q)) k s hs
      obtain ⟨P, d, r, hd, hkd, hr0, hal⟩ := HDd.out
      obtain ⟨u, hu⟩ : ∃ u, u = x :: ss.take k := ⟨_, rfl⟩
      have hul : u.length = k + 1 := by rw [hu, List.length_cons, List.length_take]; have := HM.out.1; omega
      have hnx : x :: ss.take (k + 1) = u ++ [s] := by
        rw [hu, List.take_add_one, hs]
        rfl
      rw [← hu] at HRw hkd
      have hvl : (d.vs 0).length ≤ 10000 := by
        rw [hkd.vs]
        split
        · simp
        · omega
      have HWr2 := awrite_any hd (i := 0) (by rw [hkd.rd]; simp) hsl hvl
      rw [hkd.alive'] at HWr2
      have hkd2 := hkd.write (s := s)
      have HU := Lib.hid (And.intro hul (And.intro hnx (And.intro hsl (And.intro hsr (And.intro hd (And.intro hkd2 (And.intro hal (And.intro hu hr0))))))))
      have hi0 : (0 : Int) ≤ (k : Int) := by omega
      have hi1 : (k : Int) < (m : Int) := by omega
      clear hsec hs hsl hsr hd hkd hr0 hal hu hul hnx hvl hkd2 HDd hk
      go_wp2_with (refine wpList_load_mid rfl 34 _ rfl b (off + k * 128) rfl (cellsB s) _ HU.out.2.2.2.1 Try.underlying34 rfl (by rw [infoSector, cellsB_len, HU.out.2.2.1]) ?_)
      refine HWr2.mono ?_
      rintro e w6 ⟨rfl, ⟨P6, hd6, hP6⟩, f6⟩
      have HR6 : Hid (w6.rangeAt b (off + k * 128) (cellsB s)) := Lib.hid fun j z hz => (f6.cell (World.block_lt_of_cell? wr _ (HU.out.2.2.2.1 j z hz)) (fun q => by
        have h1 := (HU.out.2.2.2.2.1.2 b q).1
        obtain ⟨b', off', e', hs'⟩ := HM.out.2.1 (by omega)
        injection e' with e'
        injection e' with e1 e2
        subst e1
        have h3 := World.block_lt_of_cell? W _ ((hs' k s (by have h4 := HU.out.2.1; rw [List.take_add_one] at h4; have h5 := HU.out.2.2.2.2.2.2.2.1; rw [h5] at h4; cases hq : ss[k]? with
          | none => rw [hq] at h4; simp at h4
          | some y => rw [hq] at h4; simp at h4; rw [h4])).2 j z hz)
        have h4 := HM.out.2.2
        have h5 : b < W.heap.size := h3
        omega)).trans (HU.out.2.2.2.1 j z hz)
      have hrow6 := own_keep HRw.out f6 (fun b hb => (HU.out.2.2.2.2.2.2.1 b hb).2)
      have HF6 := Lib.hid (HF.out.trans f6 (fun b hb q => by have := (HU.out.2.2.2.2.1.2 b q).1; have := HM.out.2.2; omega))
      have hbn := Blk.new w6 34 (cellsB s).toArray
      have fa6 := (Fr.refl (fun _ => False) w6).alloc (.cells (cellsB s).toArray 34)
      have hrow7 : (w6.alloc (.cells (cellsB s).toArray 34)).ownsRow 0 34 128 (.slice Aa (k + 1) c) u.length (cellsB u.flatten) := by
        have h1 := own_keep hrow6 fa6 (fun _ _ q => q)
        rw [HU.out.1]
        exact h1
      have hals : ∀ b, (Value.slice Aa (k + 1) c).ownBlock = some b → ¬ P6 b := fun b hb q => by
        have h1 := own_lt HRw.out hb
        rcases hP6 b q with q | q
        · exact (HU.out.2.2.2.2.2.2.1 b hb).2 q
        · omega
      have hs7 : (w6.alloc (.cells (cellsB s).toArray 34)).heap.size = w6.heap.size + 1 := by
        show (w6.heap.push _).size = _
        simp
      have H7 := Lib.hid (And.intro hrow7 (And.intro hbn (And.intro hals (And.intro (hd6.new fa6) (And.intro (HF6.out.trans fa6 (fun _ _ q => q)) (And.intro hs7 hd6))))))
      clear hrow6 hrow7 hbn fa6 hals hd6 hP6 f6 HWr2 hs7
      go_wp2_with (first
        | (refine wpList_load_mid rfl 34 _ rfl b (off + k * 128) rfl (cellsB s) _ HR6.out Try.underlying34 rfl (by rw [infoSector, cellsB_len, HU.out.2.2.1]) ?_)
        | (refine wpList_build_sec rfl _ rfl HU.out.2.2.1 rfl ?_)
        | (refine wpList_append_sec rfl (.tmp 57) (.tmp 62) rfl H7.out.1 H7.out.2.1 HU.out.2.2.1 (by rw [HU.out.1]; omega) rfl rfl ?_; intro v8 w8 hr1 hr2 hr3; rw [HU.out.1] at hr1; obtain ⟨A8, c8, rfl, hc8, _⟩ := own_slice hr1))
      have f8 : Fr (fun b => (Value.slice Aa (k + 1) c).ownBlock = some b) (w6.alloc (.cells (cellsB s).toArray 34)) w8 := (Fr.refl _ _).grown hr2 (fun _ e => .inl e)
      have hd8 := H7.out.2.2.2.1.keep f8 (fun b hb q => H7.out.2.2.1 b q hb)
      have HF8 := Lib.hid (H7.out.2.2.2.2.1.trans f8 (fun b hb q => by
        have h1 := (HU.out.2.2.2.2.2.2.1 b q).1
        have h2 := HM.out.2.2
        omega))
      refine ⟨⟨k + 1, A8, c8, by go_num, rfl, by omega, Lib.hid (by rw [HU.out.2.1]; exact hr1), Lib.hid ⟨P6, d.write 0 s, s, hd8, ?_, fun q => by omega, fun b hb => ?_⟩, HF8⟩, by simp [intOf]; omega⟩
      · have h1 := HU.out.2.2.2.2.2.1
        rw [if_neg (by omega), HU.out.2.1]
        by_cases hk0 : k = 0
        · have hr0 := HU.out.2.2.2.2.2.2.2.2 hk0
          rw [if_pos hk0, if_pos rfl, hr0] at h1
          have hu1 := HU.out.2.2.2.2.2.2.2.1
          rw [hk0, List.take_zero] at hu1
          rw [hu1]
          exact h1
        · rw [if_neg hk0, if_neg (by intro q; have := HU.out.1; rw [q] at this; simp at this)] at h1
          exact h1
      · rcases hr3 with e | e
        · rw [e] at hb; exact ⟨(HU.out.2.2.2.2.2.2.1 b hb).1, H7.out.2.2.1 b hb⟩
        · rw [e, H7.out.2.2.2.2.2.1] at hb
          injection hb with hb
          have h1 := (H7.out.2.2.2.2.2.2).g_lt.2
          exact ⟨by omega, fun q => by have := (H7.out.2.2.2.2.2.2.2 b q).2; omega⟩
    · obtain rfl : k = m := by omega
      obtain ⟨P, d, r, hd, hkd, hr0, hal⟩ := HDd.out
      obtain ⟨u, hu⟩ : ∃ u, u = x :: ss := ⟨_, rfl⟩
      have htk : ss.take k = ss := List.take_of_length_le (by have := HM.out.1; omega)
      rw [htk, ← hu] at HRw hkd
      have hul : u.length = k + 1 := by rw [hu, List.length_cons]; have := HM.out.1; omega
      have hall : ∀ y ∈ u, y.length = 128 := fun y hy => by
        rw [hu] at hy
        rcases List.mem_cons.1 hy with e | e
        · rw [e]; exact HX.out
        · exact HAl.out y e
      have hr1 : k = 0 → u = [r] := fun e => by
        have h1 := HM.out.1
        rw [hu, hr0 e, List.eq_nil_of_length_eq_zero (by omega : ss.length = 0)]
      have hrow1 : wr.ownsRow 0 34 128 (.slice Aa (k + 1) c) u.length (cellsB u.flatten) := by rw [hul]; exact HRw.out
      obtain ⟨Ab, cb, hvb, hn1, hn2, h3⟩ := secV_row hrow1 hall
      obtain ⟨b2, off2, hAb, hsec2⟩ := h3 (by omega)
      injection hvb with e1 e2 e3
      subst e1 e3 hAb
      clear e2
      obtain ⟨q, hq⟩ : ∃ q, q = 2 * k + 1 := ⟨_, rfl⟩
      have hqi : (2 * (k : Int) + 1) = (q : Int) := by omega
      have hfew : d.few 1000 := hkd.few (by split; (· simp); (· omega))
      have HQ := Lib.hid (And.intro hq (And.intro hul (And.intro hr1 (And.intro hsec2 (And.intro hd (And.intro hkd (And.intro hfew hall)))))))
      clear hu htk hul hr1 hrow1 hn1 hn2 h3 hsec2 hal hr0 hkd hd HRw HDd hlt hq hfew hall hk
      go_wp2_with fail
      generalize wr = wo at *
      go_loopw [12] (fun i w2 => ∃ k2 : Nat, i = .int .i64 k2 ∧ k2 ≤ q ∧ Hid (Fr (fun _ => False) wo w2)) (fun i _ => q - (intOf i).toNat)
      case atStart => exact ⟨0, rfl, Nat.zero_le _, Lib.hid (Fr.refl _ _)⟩
      case round =>
        obtain ⟨k2, rfl, hk2, HF2⟩ := hrel
        by_cases hlt : k2 < q
        · have hd2 := HQ.out.2.2.2.2.1.new HF2.out
          have HCp := acopy_any hd2 (fun i hi => Nat.le_trans (HQ.out.2.2.2.2.2.2.1 i hi) (by omega))
          clear hd2
          go_wp2_with fail
          refine HCp.mono ?_
          rintro e w1 ⟨g2, o, Q, rfl, ho, _, has, f1⟩
          have hko := has.kd HQ.out.2.2.2.2.2.1
          have hkc := crash_left hko HQ.out.2.1 HQ.out.2.2.1 (k2 : Int)
          have hpk : pickN (k + 1) (k2 : Int) = k2 := by
            unfold pickN
            have h1 := HQ.out.1
            have e : 2 * (k + 1) - 1 = q := by omega
            rw [e, Int.emod_eq_of_lt (by omega) (by omega)]
            omega
          rw [hpk] at hkc
          have HCr := acrash_new ho (k2 : Int) (hko.few (by have := HQ.out.2.1; split; (· simp); (· omega)))
          obtain ⟨z, hz⟩ : ∃ z, z = leftL u k2 := ⟨_, rfl⟩
          rw [← hz] at hkc
          have HO := Lib.hid (And.intro ho (And.intro hkc (And.intro hz f1)))
          clear ho has hko hkc hpk hz f1 HCp
          go_wp2_with fail
          refine HCr.mono ?_
          rintro e w2 ⟨rfl, ho2, f2⟩
          have HRd := aread_any ho2 (k := 0) (by rw [HO.out.2.1.rd]; simp)
          have hzz : (o.crash [(k2 : Int)]).rd.getD 0 [] = z := by rw [HO.out.2.1.rd]; rfl
          rw [hzz] at HRd
          have HF3 := Lib.hid ((HF2.out.trans HO.out.2.2.2 (fun _ _ q => q)).trans f2 (fun b hb q => by have h1 := (HO.out.1.2 b q).1; have h2 := HF2.out.size; omega))
          clear ho2 f2 HCr hzz
          go_wp2_with fail
          refine HRd.mono ?_
          rintro e w3 ⟨rfl, f3⟩
          have HF4 := Lib.hid (HF3.out.trans f3 (fun _ _ q => q))
          clear f3 HRd HF3
          obtain ⟨j, hj⟩ : ∃ j, j = (k2 + 1) / 2 := ⟨_, rfl⟩
          have hj2 : ((k2 : Int) + 1) / 2 = (j : Int) := by omega
          have hji : (0 : Int) ≤ (j : Int) := by omega
          have hjk : (j : Int) < ((k : Int) + 1) := by have := HQ.out.1; have := HQ.out.2.1; omega
          obtain ⟨y, hy⟩ : ∃ y, u[j]? = some y := ⟨_, List.getElem?_eq_getElem (by have := HQ.out.2.1; omega)⟩
          have hzl : z.length = 128 := by
            rw [HO.out.2.2.1]
            have h1 := leftL_len HQ.out.2.2.2.2.2.2.2 (by have := HQ.out.2.1; omega) (k2 : Int)
            have hpk : pickN u.length (k2 : Int) = k2 := by
              unfold pickN
              have h1 := HQ.out.1
              have h2 := HQ.out.2.1
              have e : 2 * u.length - 1 = q := by omega
              rw [e, Int.emod_eq_of_lt (by omega) (by omega)]
              omega
            rwa [hpk] at h1
          have HZ := Lib.hid (And.intro hzl (And.intro hy (And.intro (HQ.out.2.2.2.2.2.2.2 y (List.mem_of_getElem? hy)) hj)))
          clear hj
          have hbn := Blk.new w3 34 (cellsB (nought 128)).toArray
          clear hzl hy
          go_upto_region 20 with (first
            | (refine wpList_zero rfl 34 rfl zeroSector ?_)
            | (refine wpList_store_mid rfl 34 _ _ rfl w3.heap.size 0 (cellsB z).toArray rfl rfl (hbn.there (by simp [cellsB_len, nought_len, HZ.out.1])) (by rw [infoSector]; simp [cellsB_len, HZ.out.1]) (all_oneCell_toArray (cellsB_one _)) ?_))
          have hb4 := hbn.over (o := 0) (m := z) (by rw [nought_len, HZ.out.1]; omega)
          rw [patch_all (by rw [nought_len, HZ.out.1])] at hb4
          have f4 : Fr (fun _ => False) w3 ((w3.alloc (.cells (cellsB (nought 128)).toArray 34)).setCells w3.heap.size 0 (cellsB z)) := Fr.setCells (.inr (Nat.le_refl _)) ((Fr.refl _ w3).alloc _)
          have HF5 := Lib.hid (HF4.out.trans f4 (fun _ _ q => q))
          generalize (w3.alloc (.cells (cellsB (nought 128)).toArray 34)).setCells w3.heap.size 0 (cellsB z) = w4 at *
          obtain ⟨bz, hbz⟩ : ∃ bz, bz = w3.heap.size := ⟨_, rfl⟩
          rw [← hbz] at hb4 ⊢
          have HB4 := Lib.hid hb4
          clear hbn f4 hb4 hbz HF4
          have HRy : Hid (w4.rangeAt b2 (off2 + j * 128) (cellsB y)) := Lib.hid ((HQ.out.2.2.2.1.keep HF5.out (fun q => q)) j y HZ.out.2.1).2
          have hbn := Blk.new w4 34 (cellsB (nought 128)).toArray
          go_upto_region 21 with (first
            | (refine wpList_load_mid rfl 34 _ rfl b2 (off2 + j * 128) rfl (cellsB y) _ HRy.out Try.underlying34 rfl (by rw [infoSector, cellsB_len, HZ.out.2.2.1]) ?_)
            | (refine wpList_zero rfl 34 rfl zeroSector ?_)
            | (refine wpList_store_mid rfl 34 _ _ rfl w4.heap.size 0 (cellsB y).toArray rfl rfl (hbn.there (by simp [cellsB_len, nought_len, HZ.out.2.2.1])) (by rw [infoSector]; simp [cellsB_len, HZ.out.2.2.1]) (all_oneCell_toArray (cellsB_one _)) ?_))
          have hb5 := hbn.over (o := 0) (m := y) (by rw [nought_len, HZ.out.2.2.1]; omega)
          rw [patch_all (by rw [nought_len, HZ.out.2.2.1])] at hb5
          have f5 : Fr (fun _ => False) w4 ((w4.alloc (.cells (cellsB (nought 128)).toArray 34)).setCells w4.heap.size 0 (cellsB y)) := Fr.setCells (.inr (Nat.le_refl _)) ((Fr.refl _ w4).alloc _)
          have HF6 := Lib.hid (HF5.out.trans f5 (fun _ _ q => q))
          have hbz5 := HB4.out.keep f5 (fun q => q)
          have hzw : bz ≠ w4.heap.size := by have := HB4.out.lt; omega
          generalize (w4.alloc (.cells (cellsB (nought 128)).toArray 34)).setCells w4.heap.size 0 (cellsB y) = w5 at *
          obtain ⟨bw, hbw⟩ : ∃ bw, bw = w4.heap.size := ⟨_, rfl⟩
          rw [← hbw] at hb5 hzw ⊢
          have hwr : wo.heap.size ≤ bw := by rw [hbw]; exact HF5.out.size
          have HB5 := Lib.hid (And.intro hb5 (And.intro hbz5 (And.intro hzw hwr)))
          clear hbn f5 hb5 hbw hbz5 hzw hwr HF5 HB4 HRy
          have hneq : ∀ w, (binOp .neq 34 (.agg (cellsB z).toArray) (.agg (cellsB z).toArray)).run Try.prog w = .ok (.bool false) w := fun w => by
            have := sec_neq z z HZ.out.1 HZ.out.1 w
            simpa using this
          by_cases hpe : 0 < k2 ∧ k2 % 2 = 0
          · have hp1 : (0 : Int) < (k2 : Int) := by omega
            have hp2 : (k2 : Int) > 0 := hp1
            have hev : ((k2 : Int) % 2 == 0) = true := by simp; omega
            obtain ⟨i, hi⟩ : ∃ i, i + 1 = j := ⟨j - 1, by have := HZ.out.2.2.2; omega⟩
            have hj3 : (k2 : Int) / 2 = (j : Int) := by have := HZ.out.2.2.2; omega
            have hi2 : (j : Int) - 1 = (i : Int) := by omega
            have hi3 : (0 : Int) ≤ (i : Int) := by omega
            have hi4 : (i : Int) < ((k : Int) + 1) := by omega
            have hwi : IntKind.i64.wrap (i : Int) = (i : Int) := by
              simp [IntKind.wrap, IntKind.signed, IntKind.bits]
              have := HQ.out.1
              omega
            have hwj : IntKind.i64.wrap (j : Int) = (j : Int) := by
              simp [IntKind.wrap, IntKind.signed, IntKind.bits]
              have := HQ.out.1
              omega
            obtain ⟨y2, hy2⟩ : ∃ y2, u[i]? = some y2 := ⟨_, List.getElem?_eq_getElem (by have := HQ.out.2.1; omega)⟩
            have hyl2 := HQ.out.2.2.2.2.2.2.2 y2 (List.mem_of_getElem? hy2)
            have HT : Hid (tornL y y2 = z ∧ y2.length = 128 ∧ y.length = 128) := Lib.hid ⟨by
              rw [HO.out.2.2.1]
              unfold leftL
              have hji : (k2 + 1) / 2 - 1 = i := by have := HZ.out.2.2.2; omega
              rw [if_pos hpe, hji, ← HZ.out.2.2.2, List.getD_eq_getElem?_getD, List.getD_eq_getElem?_getD, HZ.out.2.1, hy2]
              rfl, hyl2, HZ.out.2.2.1⟩
            have HC : Hid ((∀ w', Fr (fun b => b = bw) w5 w' → w'.rangeAt b2 (off2 + j * 128) (cellsB y)) ∧ (∀ w', Fr (fun b => b = bw) w5 w' → w'.rangeAt b2 (off2 + i * 128) (cellsB y2))) := Lib.hid (by
              have hb2l : b2 ≠ bw := by
                have h1 := World.block_lt_of_cell? wo _ ((HQ.out.2.2.2.1 i y2 hy2).2 0 ((cellsB y2)[0]'(by rw [cellsB_len, hyl2]; omega)) (List.getElem?_eq_getElem _))
                have h2 := HB5.out.2.2.2
                have h3 : b2 < wo.heap.size := h1
                omega
              exact ⟨fun w' f => ((((HQ.out.2.2.2.1.keep HF6.out (fun q => q))).keep f hb2l) j y HZ.out.2.1).2, fun w' f => ((((HQ.out.2.2.2.1.keep HF6.out (fun q => q))).keep f hb2l) i y2 hy2).2⟩)
            have hTn : ∀ w'', Calls Try.prog 21 #[av y, av y2] w'' fun e w' => e = .returned (av z) ∧ Fr (fun _ => False) w'' w' := fun w'' => by
              have h1 := rtorn_any w'' HT.out.2.2 HT.out.2.1
              rwa [HT.out.1] at h1
            have hu := Try.underlying34
            have hsx : (Try.prog.info? 34).map (·.size) = some (cellsB y).length := by rw [infoSector, cellsB_len, HT.out.2.2]
            have hsy : (Try.prog.info? 34).map (·.size) = some (cellsB y2).length := by rw [infoSector, cellsB_len, HT.out.2.1]
            clear hi hy2 hyl2 hneq
            go_wp2_with fail
            refine wp_region_held_drew (S := fun w' => Fr (fun b => b = bw) w5 w' ∧ ∃ y0 : List UInt8, y0.length = 128 ∧ Blk w' bw 34 (cellsB y0).toArray) (by kernel_rfl) (⟨(Fr.refl _ _).drew, y, HT.out.2.2, HB5.out.1⟩) (fun hS0 => ?_)
            refine anyH_take 0 97 (.slice (some ⟨b2, off2, none⟩) (k + 1) c) rfl rfl (by kernel_rfl) (by kernel_rfl) (by kernel_rfl) (fun _ _ _ h => h) (.inl ⟨by rfl, fun w'' hS => by go_simp⟩) hS0 ?_
            (simp only [List.setIfInBounds_toArray, List.set_cons_zero, List.set_cons_succ])
            refine anyH_take 1 98 (.int .i64 (k2 : Nat)) rfl rfl (by kernel_rfl) (by kernel_rfl) (by kernel_rfl) (fun _ _ _ h => h) (.inl ⟨by rfl, fun w'' hS => by go_simp⟩) hS0 ?_
            (simp only [List.setIfInBounds_toArray, List.set_cons_zero, List.set_cons_succ])
            refine anyH_take 2 99 (.int .i64 (j : Nat)) rfl rfl (by kernel_rfl) (by kernel_rfl) (by kernel_rfl) (fun _ _ _ h => h) (.inl ⟨by rfl, fun w'' hS => by go_simp⟩) hS0 ?_
            (simp only [List.setIfInBounds_toArray, List.set_cons_zero, List.set_cons_succ])
            refine anyH_take 3 100 (.pointer (some ⟨b2, off2 + j * 128, none⟩)) rfl rfl (by kernel_rfl) (by kernel_rfl) (by kernel_rfl) (fun _ _ _ h => h) (.inl ⟨by rfl, fun w'' hS => by go_simp⟩) hS0 ?_
            (simp only [List.setIfInBounds_toArray, List.set_cons_zero, List.set_cons_succ])
            refine anyH_take 4 101 (.agg (cellsB y).toArray) rfl rfl (by kernel_rfl) (by kernel_rfl) (by kernel_rfl) (fun _ _ _ h => h) (yieldsIf_load_mid (by rfl) _ _ rfl _ _ rfl _ _ (fun w' f => HC.out.1 w' f.1) hu rfl hsx) hS0 ?_
            (simp only [List.setIfInBounds_toArray, List.set_cons_zero, List.set_cons_succ])
            refine anyH_take 5 102 (.slice (some ⟨b2, off2, none⟩) (k + 1) c) rfl rfl (by kernel_rfl) (by kernel_rfl) (by kernel_rfl) (fun _ _ _ h => h) (.inl ⟨by rfl, fun w'' hS => by go_simp⟩) hS0 ?_
            (simp only [List.setIfInBounds_toArray, List.set_cons_zero, List.set_cons_succ])
            refine anyH_take 6 103 (.int .i64 (k2 : Nat)) rfl rfl (by kernel_rfl) (by kernel_rfl) (by kernel_rfl) (fun _ _ _ h => h) (.inl ⟨by rfl, fun w'' hS => by go_simp⟩) hS0 ?_
            (simp only [List.setIfInBounds_toArray, List.set_cons_zero, List.set_cons_succ])
            refine anyH_take 7 104 (.int .i64 (j : Nat)) rfl rfl (by kernel_rfl) (by kernel_rfl) (by kernel_rfl) (fun _ _ _ h => h) (.inl ⟨by rfl, fun w'' hS => by go_simp⟩) hS0 ?_
            (simp only [List.setIfInBounds_toArray, List.set_cons_zero, List.set_cons_succ])
            refine anyH_take 8 105 (.int .i64 (i : Nat)) rfl rfl (by kernel_rfl) (by kernel_rfl) (by kernel_rfl) (fun _ _ _ h => h) (.inl ⟨by rfl, fun w'' hS => by go_simp⟩) hS0 ?_
            (simp only [List.setIfInBounds_toArray, List.set_cons_zero, List.set_cons_succ])
            refine anyH_take 9 106 (.pointer (some ⟨b2, off2 + i * 128, none⟩)) rfl rfl (by kernel_rfl) (by kernel_rfl) (by kernel_rfl) (fun _ _ _ h => h) (.inl ⟨by rfl, fun w'' hS => by go_simp⟩) hS0 ?_
            (simp only [List.setIfInBounds_toArray, List.set_cons_zero, List.set_cons_succ])
            refine anyH_take 10 107 (.agg (cellsB y2).toArray) rfl rfl (by kernel_rfl) (by kernel_rfl) (by kernel_rfl) (fun _ _ _ h => h) (yieldsIf_load_mid (by rfl) _ _ rfl _ _ rfl _ _ (fun w' f => HC.out.2 w' f.1) hu rfl hsy) hS0 ?_
            (simp only [List.setIfInBounds_toArray, List.set_cons_zero, List.set_cons_succ])
            refine anyH_one 11 108 (av z) (by kernel_rfl) (tame_call 108 rfl rfl (by rfl) (fun w'' hS => by go_simp) (fun w'' hS => ((hTn w'').mono fun e w3 he => ⟨he.1, hS.1.trans (he.2.mono (fun _ _ q => q.elim)) (fun _ _ q => q), hS.2.imp fun y0 h => ⟨h.1, h.2.keep he.2 (fun q => q)⟩⟩))) hS0 (fun w6 hS0 => ?_)
            (simp only [List.setIfInBounds_toArray, List.set_cons_zero, List.set_cons_succ])
            obtain ⟨y0, hl0, hb0⟩ := hS0.2
            have hb := hb0.over (o := 0) (m := z) (by rw [hl0, HZ.out.1]; omega)
            rw [patch_all (by rw [hl0, HZ.out.1])] at hb
            have f67 : Fr (fun b => b = bw) w5 (w6.setCells bw 0 (cellsB z)) := Fr.setCells (F := fun b => b = bw) (.inl rfl) hS0.1
            refine anyH_skip 12 _ (by kernel_rfl) rfl rfl (by rfl) (run_store_mid 34 _ _ rfl bw 0 (cellsB z).toArray rfl rfl (hb0.there (by simp [cellsB_len, hl0, HZ.out.1])) (by rw [infoSector]; simp [cellsB_len, HZ.out.1]) (all_oneCell_toArray (cellsB_one _))) ⟨f67, _, HZ.out.1, hb⟩ ?_
            refine wpAnyH_done (by kernel_rfl) ?_ _
            have HFa := Lib.hid (HF6.out.trans f67 (fun b hb' q => by have q' : b = bw := q; have := HB5.out.2.2.2; omega))
            have HRz := Lib.hid (sec_range HZ.out.1 (HB5.out.2.1.keep f67 HB5.out.2.2.1))
            have HRw := Lib.hid (sec_range HZ.out.1 hb)
            generalize w6.setCells bw 0 (cellsB z) = w7 at *
            clear hb hb0 hl0 f67 hS0 HC hu hsx hsy
            have hneq : ∀ w, (binOp .neq 34 (.agg (cellsB z).toArray) (.agg (cellsB z).toArray)).run Try.prog w = .ok (.bool false) w := fun w => by
              have := sec_neq z z HZ.out.1 HZ.out.1 w
              simpa using this
            go_wp2_with (first
              | (refine wpList_load_want (by rfl) 34 _ rfl bz 0 rfl (cellsB z) _ HRz.out Try.underlying34 rfl (by rw [infoSector, cellsB_len, HZ.out.1]) ?_)
              | (refine wpList_load_want (by rfl) 34 _ rfl bw 0 rfl (cellsB z) _ HRw.out Try.underlying34 rfl (by rw [infoSector, cellsB_len, HZ.out.1]) ?_))
            exact ⟨⟨k2 + 1, by go_num, by omega, HFa⟩, by simp [intOf]; omega⟩
          · have HT : Hid (y = z) := Lib.hid (by
              rw [HO.out.2.2.1]
              unfold leftL
              rw [if_neg hpe, ← HZ.out.2.2.2, List.getD_eq_getElem?_getD, HZ.out.2.1]
              rfl)
            have HRz := Lib.hid (sec_range HZ.out.1 HB5.out.2.1)
            have HRw : Hid (w5.rangeAt bw 0 (cellsB z)) := Lib.hid (HT.out ▸ sec_range HZ.out.2.2.1 HB5.out.1)
            by_cases hp0 : k2 = 0
            · have hp1 : ¬ ((0 : Int) < (k2 : Int)) := by omega
              have hp2 : ¬ ((k2 : Int) > 0) := hp1
              clear hpe
              go_wp2_with (first
                | (refine wpList_load_want (by rfl) 34 _ rfl bz 0 rfl (cellsB z) _ HRz.out Try.underlying34 rfl (by rw [infoSector, cellsB_len, HZ.out.1]) ?_)
                | (refine wpList_load_want (by rfl) 34 _ rfl bw 0 rfl (cellsB z) _ HRw.out Try.underlying34 rfl (by rw [infoSector, cellsB_len, HZ.out.1]) ?_))
              have h1q : 1 ≤ q := by have := HQ.out.1; omega
              first
                | exact ⟨⟨1, rfl, h1q, HF6⟩, by simp [intOf]; omega⟩
                | exact ⟨⟨1, rfl, h1q⟩, by simp [intOf]; omega⟩
                | exact ⟨⟨k2 + 1, by go_num, by omega, HF6⟩, by simp [intOf]; omega⟩
                | (subst hp0; exact ⟨⟨1, by go_num, h1q, HF6⟩, by simp [intOf]; omega⟩)
            · have hp1 : (0 : Int) < (k2 : Int) := by omega
              have hp2 : (k2 : Int) > 0 := hp1
              have hev : ((k2 : Int) % 2 == 0) = false := by simp; omega
              clear hpe hp0
              go_wp2_with (first
                | (refine wpList_load_want (by rfl) 34 _ rfl bz 0 rfl (cellsB z) _ HRz.out Try.underlying34 rfl (by rw [infoSector, cellsB_len, HZ.out.1]) ?_)
                | (refine wpList_load_want (by rfl) 34 _ rfl bw 0 rfl (cellsB z) _ HRw.out Try.underlying34 rfl (by rw [infoSector, cellsB_len, HZ.out.1]) ?_))
              exact ⟨⟨k2 + 1, by go_num, by omega, HF6⟩, by simp [intOf]; omega⟩
        · obtain rfl : k2 = q := by omega
          clear hlt hk2
          obtain ⟨t, ht⟩ : ∃ t, t = pick.tmod (k2 : Int) := ⟨_, rfl⟩
          have hq0 : 0 < k2 := by have := HQ.out.1; omega
          have hq1 : k2 ≤ 25 := by have := HQ.out.1; have := HQ.out.2.1; omega
          have ht1 : t < (k2 : Int) := by rw [ht]; exact Int.tmod_lt_of_pos pick (by omega)
          have ht0 : -(k2 : Int) < t := by rw [ht]; exact Int.lt_tmod_of_pos pick (by omega)
          obtain ⟨p, hp⟩ : ∃ p, p = pickN (k + 1) pick := ⟨_, rfl⟩
          have hpp : pick % (k2 : Int) = (p : Int) := by
            rw [hp]
            unfold pickN
            have h1 := HQ.out.1
            have e : 2 * (k + 1) - 1 = k2 := by omega
            rw [e]
            have := Int.emod_nonneg pick (b := (k2 : Int)) (by omega)
            omega
          have ht2 : (t + (k2 : Int)).tmod (k2 : Int) = (p : Int) := by
            rw [Int.tmod_eq_emod_of_nonneg (by omega), ← hpp, Int.add_emod_right, ht]
            have h3 := Int.tmod_eq_emod (a := pick) (b := (k2 : Int))
            rw [h3]
            split
            · simp
            · rw [Int.sub_emod]
              simp
          have hpn : pickN (k + 1) (p : Int) = p := by
            unfold pickN
            have h1 := HQ.out.1
            have e : 2 * (k + 1) - 1 = k2 := by omega
            have h2 := Int.emod_lt_of_pos pick (b := (k2 : Int)) (by omega)
            rw [e, Int.emod_eq_of_lt (by omega) (by omega)]
            omega
          have hte := ht.symm
          have HPK := Lib.hid (And.intro hp hpn)
          clear hp hpn hpp ht
          have hfw : d.few 100000 := fun i hi => Nat.le_trans (HQ.out.2.2.2.2.2.2.1 i hi) (by omega)
          have HC1 := one_copy ⟨P, HQ.out.2.2.2.2.1.new HF2.out⟩ hfw
          go_wp2_with fail
          refine HC1.mono ?_
          rintro e w1 ⟨g1, o1, rfl, hbo, has1, f1⟩
          have HC2 := both_copy hbo hfw
          have HB1 := Lib.hid (And.intro has1 (HF2.out.trans f1 (fun _ _ q => q)))
          clear hbo has1 f1 HC1 hfw
          go_wp2_with fail
          refine HC2.mono ?_
          rintro e w2 ⟨g3, o3, rfl, hbo, has3, f2⟩
          have K1 := crash_left (HB1.out.1.kd HQ.out.2.2.2.2.2.1) HQ.out.2.1 HQ.out.2.2.1 pick
          have K3 := crash_left (has3.kd HQ.out.2.2.2.2.2.1) HQ.out.2.1 HQ.out.2.2.1 (p : Int)
          rw [← HPK.out.1] at K1
          rw [HPK.out.2] at K3
          have hlk := K1.like K3
          have hf1 : o1.few 1000000 := (HB1.out.1.kd HQ.out.2.2.2.2.2.1).few (by have := HQ.out.2.1; split; (· simp); (· omega))
          have hf3 : o3.few 1000000 := (has3.kd HQ.out.2.2.2.2.2.1).few (by have := HQ.out.2.1; split; (· simp); (· omega))
          have HCa := both_crash_new hbo pick hf1
          have HB2 := Lib.hid (And.intro hlk (And.intro hf3 (HB1.out.2.trans f2 (fun _ _ q => q))))
          clear hbo has3 f2 HC2 K1 K3 hlk hf1 hf3
          go_wp2_with fail
          refine HCa.mono ?_
          rintro e w3 ⟨rfl, hbo, f3⟩
          have HCb := both_crash_new hbo.symm (p : Int) HB2.out.2.1
          have HF3' := Lib.hid ((HF.out.trans HB2.out.2.2 (fun _ _ q => q)).trans f3 (fun b hb q => by have := HM.out.2.2; omega))
          clear hbo f3 HCa
          go_wp2_with fail
          refine HCb.mono ?_
          rintro e w4 ⟨rfl, hbo, f4⟩
          have HSm := both_same hbo.symm
          have HF4' := Lib.hid (HF3'.out.trans f4 (fun b hb q => by have := HM.out.2.2; omega))
          clear hbo f4 HCb
          go_wp2_with fail
          refine HSm.mono ?_
          rintro e w5 ⟨bb, rfl, hbb, f5⟩
          obtain rfl : bb = true := hbb.2 HB2.out.1
          have HF5' := Lib.hid (HF4'.out.trans f5 (fun _ _ q => q))
          clear hbb f5 HSm
          go_wp2_with fail
          refine (known_any _).mono ?_
          rintro e w6 ⟨rfl, f6⟩
          have HF6' := Lib.hid (HF5'.out.trans f6 (fun _ _ q => q))
          clear f6
          go_wp2_with fail
          go_ret
          exact ⟨rfl, HF6'.out⟩
end Go.Proofs.Ytcpbhpddemflcaa
