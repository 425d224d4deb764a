/- The law's rows, one behind the other. -/
import Derived.Test.YtmpojkggjdnpiaaApl
import Derived.Deep.MidRow
namespace Go.Proofs.Ytmpojkggjdnpiaa
open Go.RowKit

theorem tagOf_row {x : RowD} (hm : mayT x.c x.n = true) (h3 : x.l.length ≤ 3000) (more : List (List UInt8)) :
    tagAt (secs (rowL x) (nL x) ++ more) = (x.c, x.n.toNat) ∧ joinOf (secs (rowL x) (nL x) ++ more) = some x.l := by
  have hn : x.n = (x.n.toNat : Int) := by
    unfold mayT at hm
    simp at hm
    omega
  exact join_row (c := x.c) (n := x.n.toNat) (b := x.l) (by omega) (by rw [← hn]; exact hm) more

theorem sizeSec (w : World) : (sizeOf (Try.prog.elem 27)).run Try.prog w = .ok 128 w := by
  obtain ⟨i0, hi, hz0, hz1, hz2⟩ := info_parts infoSec
  have e : Try.prog.elem 27 = 37 := by kernel_rfl
  rw [e]
  simp [sizeOf, typeInfo, hi, hz1]
/-- 's[n:]' of sectors. -/
theorem slice_secs {w : World} {A : Option Addr} {cap : Nat} {ss : List (List UInt8)} (h : SecV w (.slice A ss.length cap) ss) (n : Nat) (hn : n ≤ ss.length) :
    ∃ v', (∀ W, (Instr.slice 27 (.slice A ss.length cap) (some (.int .i64 (n : Int))) none none).run Try.prog W = .ok v' W) ∧ SecV w v' (ss.drop n) := by
  obtain ⟨A1, cap1, e, h1, h2, h3⟩ := h
  injection e with e1 _ e2
  subst e1 e2
  refine ⟨.slice (if cap = n then A else A.map fun x => x.add (n * 128)) (ss.length - n) (cap - n), fun W => ?_, ?_⟩
  · rw [run_slice_l W 27 A ss.length cap (by kernel_rfl) .i64 n (by omega) (by omega), sizeSec]
    simp [Result.andThen, sliced]
  · refine ⟨_, cap - n, by rw [List.length_drop], by rw [List.length_drop]; omega, by omega, fun q => ?_⟩
    rw [List.length_drop] at q
    obtain ⟨b, off, rfl, hs⟩ := h3 (by omega)
    rw [if_neg (by omega)]
    exact ⟨b, off + n * 128, by simp [Addr.add], hs.drop n⟩
theorem need_row {x : RowD} (h : x.l.length ≤ 3000) : needN (x.l.length : Nat) = nL x := by
  unfold nL
  simp [needN]
  omega

set_option maxRecDepth 100000 in
set_option maxHeartbeats 4000000 in
theorem apart_some {w : World} {b off : Nat} {xs : List RowD} {cap : Nat} (h : RowsAt w b off xs) (hl : xs.length ≤ maxLen) :
    Calls Try.prog 6 #[.slice (some ⟨b, off, none⟩) xs.length cap] w fun e w' => e = .returned (.bool true) ∧ Fr (fun _ => False) w w' := by
  have HR := Lib.hid (rows_any (cap := cap) h hl)
  have H := Lib.hid h
  have hl' : xs.length ≤ 9223372036854775807 := by simp only [maxLen] at hl; omega
  clear h hl
  go_enter Try.func6, Try.ntmps6
  go_wp2_with fail
  (with_reducible refine HR.out.mono ?_)
  rintro e w1 ⟨β, rfl, hf1, hβ⟩
  have HF1 := Lib.hid hf1
  clear hf1 HR
  cases β with
  | false =>
    clear hβ
    go_wp2_with fail
    refine (known_any _).mono ?_
    rintro e w2 ⟨rfl, hf2⟩
    have HF2 := Lib.hid (HF1.out.trans hf2 (fun _ _ q => q))
    clear hf2
    go_wp2_with fail
    go_ret
    exact ⟨rfl, HF2.out⟩
  | true =>
    obtain ⟨h5, hx⟩ := hβ rfl
    have HX := Lib.hid hx
    have H5 := Lib.hid h5
    clear hβ hx h5
    go_wp2_with fail
    go_loopw [3, 4, 5, 6] (fun s i _ _ wr => ∃ (k : Nat) (v : Value), v = s ∧ i = .int .i64 k ∧ k ≤ xs.length ∧ Hid (wr.ownsRow w.heap.size 37 128 v (cntL (xs.take k)) (cellsB (catL (xs.take k)))) ∧ Hid (Fr (fun _ => False) w wr)) (fun _ i _ _ _ => xs.length - (intOf i).toNat)
    case atStart => exact ⟨0, _, rfl, rfl, Nat.zero_le _, Lib.hid (World.ownsRow_nil _ _ _ _), HF1⟩
    case round =>
      obtain ⟨k, v, rfl, rfl, hk, HO, HF⟩ := hrel
      by_cases hlt : k < xs.length
      · obtain ⟨hok, h0, h1, h2⟩ := (H.out.new HF.out) k xs[k] (List.getElem?_eq_getElem hlt)
        have HT := Lib.hid (List.take_succ_eq_append_getElem hlt)
        have HM := Lib.hid (HX.out _ (List.getElem_mem hlt))
        generalize xs[k] = x at *
        have hi0 : (0 : Int) ≤ (k : Int) := Int.natCast_nonneg _
        have hi1 : (k : Int) < (xs.length : Int) := by omega
        have HSP := Lib.hid (split_row (w := wr.drew) ⟨hok.c, hok.n1, hok.n2, hok.rd, hok.mc, hok.km⟩ HM.out.1 HM.out.2)
        have HOK := Lib.hid hok
        clear hok
        go_wp2_with fail
        go_region_held3 (fun w' => w'.cell? ⟨b, off + k * 3, none⟩ = some (.int .u64 x.c) ∧ w'.cell? ⟨b, off + k * 3 + 1, none⟩ = some (.int .i64 x.n) ∧ w'.cell? ⟨b, off + k * 3 + 2, none⟩ = some (.slice x.A x.m x.k))
          (first | go_keep | (exact ⟨cell_new h0 hf3, cell_new h1 hf3, cell_new h2 hf3⟩))
          ((go_at_call 9; refine HSP.out.mono ?_; rintro e w2 ⟨R, rfl, hR, hb, hf2⟩; have hf3 := ((Fr.refl (fun _ => False) wr).drew).trans hf2 (fun _ _ q => q)))
        have hsz : w.heap.size ≤ w2.heap.size := Nat.le_trans HF.out.size hf3.size
        have hbd : cntL (xs.take k) + nL x ≤ 1000000 := by
          have c1 := cntL_le (xs := xs.take k) (fun y hy => by
            have q := HX.out y (List.mem_of_mem_take hy)
            obtain ⟨i, hi⟩ := List.getElem?_of_mem (List.mem_of_mem_take hy)
            have := ((H.out i y hi).1).rd.len
            omega)
          have c2 := nL_le (x := x) (by have := HOK.out.rd.len; have := HM.out.2; omega)
          have c3 := H5.out
          rw [List.length_take] at c1
          omega
        have HO2 := Lib.hid (own_keep HO.out hf3 (fun _ _ q => q))
        have HB2 := Lib.hid (And.intro hb (And.intro hsz (And.intro hbd (HF.out.trans hf3 (fun _ _ q => q)))))
        clear h0 h1 h2 hR hb hf2 hf3 hsz hbd HO HSP
        go_wp2_with (refine wpList_append_row rfl (.tmp 36) (.tmp 37) rfl w.heap.size v (cntL (xs.take k)) (catL (xs.take k)) (rowL x) HO2.out HB2.out.1 (rowL_len x) rfl rfl HB2.out.2.2.1 HB2.out.2.1 ?_; intro v' w3 hown hgr; have HG := Lib.hid (And.intro hown hgr); clear hown hgr)
        refine ⟨⟨k + 1, v', rfl, by go_num, by omega, Lib.hid ?_, Lib.hid (HB2.out.2.2.2.grown HG.out.2 (fun j hj => .inr (HO2.out.lt j hj).1))⟩, by simp [intOf]; omega⟩
        rw [HT.out, cntL_snoc, catL_snoc]
        exact HG.out.1
      · obtain rfl : k = xs.length := by omega
        have hv0 := HO.out
        rw [List.take_length] at hv0
        have HV0 := Lib.hid (secV_own hv0)
        clear hv0 hlt hk HO
        generalize wr = wr1 at *
        go_wp2_with fail
        go_loopw [3, 7, 8, 9, 10, 11] (fun s i _ _ _ _ wr => ∃ (k : Nat), i = .int .i64 k ∧ k ≤ xs.length ∧ Hid (SecV wr s (secsL (xs.drop k))) ∧ Hid (Fr (fun _ => False) w wr)) (fun _ i _ _ _ _ _ => xs.length - (intOf i).toNat)
        case atStart => exact ⟨0, rfl, Nat.zero_le _, HV0, HF⟩
        case round =>
          obtain ⟨k, rfl, hk, HV, HFr⟩ := hrel
          by_cases hlt : k < xs.length
          · obtain ⟨hok, h0, h1, h2⟩ := (H.out.new HFr.out) k xs[k] (List.getElem?_eq_getElem hlt)
            have hdr : secsL (xs.drop k) = secs (rowL xs[k]) (nL xs[k]) ++ secsL (xs.drop (k + 1)) := by
              rw [List.drop_eq_getElem_cons hlt]
              rfl
            have HM := Lib.hid (HX.out _ (List.getElem_mem hlt))
            have HNX := Lib.hid (rfl : secsL (xs.drop (k + 1)) = secsL (xs.drop (k + 1)))
            have hx3 : xs[k].l.length ≤ 3000 := by
              have := hok.rd.len
              have := HM.out.2
              omega
            have hjr := tagOf_row HM.out.1 hx3 (secsL (xs.drop (k + 1)))
            have hnd := need_row hx3
            have hnp := nL_pos xs[k]
            have hV := HV.out
            have hbig : (secsL (xs.drop k)).length ≤ 160 := by
              rw [secsL_len]
              have c1 := cntL_le (xs := xs.drop k) (fun y hy => by
                have q := HX.out y (List.mem_of_mem_drop hy)
                obtain ⟨i, hi⟩ := List.getElem?_of_mem (List.mem_of_mem_drop hy)
                have := ((H.out i y hi).1).rd.len
                omega)
              have c3 := H5.out
              rw [List.length_drop] at c1
              omega
            have hnn : ((xs[k].n.toNat : Nat) : Int) = xs[k].n := by
              have := HM.out.1
              unfold mayT at this
              simp at this
              omega
            generalize hss : secsL (xs.drop k) = ss at *
            rw [← hdr] at hjr
            have hT : nL xs[k] ≤ ss.length := by
              rw [hdr, List.length_append, secs_len]
              omega
            have hdp : ss.drop (nL xs[k]) = secsL (xs.drop (k + 1)) := by
              rw [hdr]
              exact List.drop_left' (secs_len _ _)
            generalize xs[k] = x at *
            have hin := hV.in_
            obtain ⟨A0, cap0, hs, hcc, hcm, hbs⟩ := hV
            subst hs
            obtain ⟨v', hsl, hV'⟩ := slice_secs HV.out (nL x) hT
            rw [hdp] at hV'
            obtain ⟨b0, off0, hA0, hsa⟩ := hbs (by omega)
            subst hA0
            obtain ⟨s0, hs0⟩ : ∃ s0, ss[0]? = some s0 := ⟨_, List.getElem?_eq_getElem (by omega)⟩
            obtain ⟨hl0, hr0⟩ := hsa 0 s0 hs0
            have hv0 : hv ss 0 = s0.take 64 := by simp [hv, hs0]
            have htg : tagOf s0 = (x.c, x.n.toNat) := by
              have q := hjr.1
              unfold tagAt at q
              rw [hv0] at q
              injection q with q1 q2
              show (if mayT (hdOf (s0.take 64)).c ((hdOf (s0.take 64)).n : Int) then ((hdOf (s0.take 64)).c, (hdOf (s0.take 64)).n) else (0, 0)) = _
              rw [q1, q2]
              rw [if_pos (by rw [hnn]; exact HM.out.1)]
            have HJ := Lib.hid (join_any hin (by omega))
            have HJR := Lib.hid (And.intro hjr (And.intro hnd hnn))
            have HSL := Lib.hid (And.intro hV' hdr)
            have HTG : Hid (∀ w, Calls Try.prog 18 #[.agg (cellsB s0).toArray] w fun e w' => e = .returned (.agg #[.int .u64 x.c, .int .i64 x.n]) ∧ Fr (fun _ => False) w w') := Lib.hid fun w => by
              have q := tag_any w s0 hl0
              rw [htg] at q
              have e : tagV (x.c, x.n.toNat) = .agg #[.int .u64 x.c, .int .i64 x.n] := by
                show Value.agg #[.int .u64 (x.c : Nat), .int .i64 (x.n.toNat : Nat)] = _
                rw [hnn]
              rw [e] at q
              exact q
            have HRW := Lib.hid (And.intro h0 (And.intro h1 (And.intro h2 (And.intro hr0 hok))))
            have HTT := Lib.hid (And.intro hT hnp)
            clear hdr hx3 hjr hnd hbig hnn hss hdp hin hbs hsa hv0 htg hV' h0 h1 h2 hr0 hok HV HNX hs0
            have hi0 : (0 : Int) ≤ (k : Int) := Int.natCast_nonneg _
            have hi1 : (k : Int) < (xs.length : Int) := by omega
            have HSLW := Lib.hid hsl
            clear hsl hT hnp hcc hcm
            generalize ss.length = T at *
            go_wp2_with fail
            (with_reducible refine HJ.out.mono ?_)
            rintro e w2 ⟨_, j2, hf2⟩
            obtain ⟨A', rfl, hrA⟩ := j2 _ HJR.out.1.2
            rw [HJR.out.1.1, HJR.out.2.1]
            simp only [HJR.out.2.2]
            have hb8 := Blk.new w2 24 #[.int .u64 x.c, .int .i64 x.n]
            have hf3 : Fr (fun _ => False) wr (w2.alloc (.cells #[.int .u64 x.c, .int .i64 x.n] 24)) := hf2.alloc _
            have hrA3 : Rd (w2.alloc (.cells #[.int .u64 x.c, .int .i64 x.n] 24)) A' x.l.length x.l := hrA.keep ((Fr.refl (fun _ => False) w2).alloc _) (fun _ _ q => q)
            have HC : Hid (∀ w', Fr (fun _ => False) (w2.alloc (.cells #[.int .u64 x.c, .int .i64 x.n] 24)) w' →
                w'.rangeAt b0 off0 (cellsB s0) ∧ w'.cell? ⟨w2.heap.size, 0, none⟩ = some (.int .u64 x.c) ∧ w'.cell? ⟨w2.heap.size, 1, none⟩ = some (.int .i64 x.n) ∧
                w'.cell? ⟨b, off + k * 3, none⟩ = some (.int .u64 x.c) ∧ w'.cell? ⟨b, off + k * 3 + 1, none⟩ = some (.int .i64 x.n) ∧ w'.cell? ⟨b, off + k * 3 + 2, none⟩ = some (.slice x.A x.m x.k) ∧
                (convert 25 9 (.slice A' x.l.length x.l.length)).run Try.prog w' = .ok (.string ⟨x.l.toArray⟩) w' ∧ (convert 25 9 (.slice x.A x.m x.k)).run Try.prog w' = .ok (.string ⟨x.l.toArray⟩) w') := Lib.hid fun w' hf => by
              have f := hf3.trans hf (fun _ _ q => q)
              have q8 := hb8.keep hf (fun q => q)
              refine ⟨fun j v hv => ?_, q8.cell 0, q8.cell 1, cell_new HRW.out.1 f, cell_new HRW.out.2.1 f, cell_new HRW.out.2.2.1 f, ?_, ?_⟩
              · have := cell_new (HRW.out.2.2.2.1 j v hv) f
                rw [Nat.zero_mul, Nat.add_zero] at this
                exact this
              · exact conv_string (P := Try.prog) 25 9 5 (hrA3.keep hf (fun _ _ q => q)) Try.underlying25 Try.underlying5 Try.underlying9
              · exact conv_string (P := Try.prog) 25 9 5 (HRW.out.2.2.2.2.rd.keep f (fun _ _ q => q)) Try.underlying25 Try.underlying5 Try.underlying9
            have HF3 := Lib.hid (And.intro (HFr.out.trans hf3 (fun _ _ q => q)) (And.intro (HSL.out.1.new hf3) hf3))
            clear hf2 j2 hb8 hf3 hrA hrA3 HRW HJ HFr
            have hT0 : (0 : Int) < (T : Int) := by have := HTT.out; omega
            have hT1 : ¬ (T < nL x) := by have := HTT.out; omega
            have hT2 : T ≠ 0 := by have := HTT.out; omega
            have hT6 : 0 < T := by have := HTT.out; omega
            have hT7 : (0 : Int) ≤ (0 : Int) := Int.le_refl _
            have hT3 : ((T : Int) == 0) = false := by simpa using hT2
            have hT4 : (T == 0) = false := by simpa using hT2
            have hT5 : ¬ ((T : Int) = 0) := by omega
            have hu := Try.underlying37
            have hsz : (Try.prog.info? 37).map (·.size) = some (cellsB s0).length := by rw [infoSector, cellsB_len, hl0]
            have hcl : (cellsB s0).length = 128 := by rw [cellsB_len, hl0]
            have hone := cellsB_one s0
            have hneq : ∀ w, (binOp .neq 24 (.agg #[.int .u64 x.c, .int .i64 x.n]) (.agg #[.int .u64 x.c, .int .i64 x.n])).run Try.prog w = .ok (.bool false) w := fun w => by
              have := tag_neq x.c x.n x.c x.n w
              rw [tagEq_iff.2 ⟨rfl, rfl⟩] at this
              exact this
            go_wp2_with fail
            go_region_held3 (fun w' => w'.rangeAt b0 off0 (cellsB s0) ∧ w'.cell? ⟨w2.heap.size, 0, none⟩ = some (.int .u64 x.c) ∧ w'.cell? ⟨w2.heap.size, 1, none⟩ = some (.int .i64 x.n) ∧
                w'.cell? ⟨b, off + k * 3, none⟩ = some (.int .u64 x.c) ∧ w'.cell? ⟨b, off + k * 3 + 1, none⟩ = some (.int .i64 x.n) ∧ w'.cell? ⟨b, off + k * 3 + 2, none⟩ = some (.slice x.A x.m x.k) ∧
                (convert 25 9 (.slice A' x.l.length x.l.length)).run Try.prog w' = .ok (.string ⟨x.l.toArray⟩) w' ∧ (convert 25 9 (.slice x.A x.m x.k)).run Try.prog w' = .ok (.string ⟨x.l.toArray⟩) w')
              (first | (exact HC.out _ (Fr.refl _ _).drew) | (exact HC.out _ hfT))
              ((go_at_call 18; refine (HTG.out _).mono ?_; rintro e w4 ⟨rfl, hf4⟩; have hfT := ((Fr.refl (fun _ => False) (w2.alloc (.cells #[.int .u64 x.c, .int .i64 x.n] 24))).drew).trans hf4 (fun _ _ q => q)))
            clear hu hsz hcl hone hneq hT0 hT1 hT3 hT4 hT5 hT6 hT7
            have hfw := hfT
            have HFT := Lib.hid hfw
            clear hfw hfT
            have hsl := HSLW.out
            go_wp2_with fail
            refine ⟨⟨k + 1, by go_num, by omega, Lib.hid (HF3.out.2.1.new HFT.out), Lib.hid (HF3.out.1.trans HFT.out (fun _ _ q => q))⟩, by simp [intOf]; omega⟩
          · obtain rfl : k = xs.length := by omega
            have HE := Lib.hid HV.out
            obtain ⟨A0, cap0, hs, _, _, _⟩ := HV.out
            subst hs
            have h0 : (secsL (xs.drop xs.length)).length = 0 := by rw [List.drop_length]; rfl
            rw [h0]
            go_wp2_with fail
            refine (known_any _).mono ?_
            rintro e w4 ⟨rfl, hf4⟩
            have HF4 := Lib.hid (HFr.out.trans hf4 (fun _ _ q => q))
            clear hf4
            go_wp2_with fail
            go_ret
            exact ⟨rfl, HF4.out⟩
end Go.Proofs.Ytmpojkggjdnpiaa
