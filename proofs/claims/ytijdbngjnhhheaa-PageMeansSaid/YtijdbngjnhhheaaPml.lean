/- The law PageMeans. -/
import Derived.Test.YtijdbngjnhhheaaPmp
namespace Go.Proofs.Ytijdbngjnhhheaa
open Go.RowKit

section
variable {w : World} {v : Value} {xs : List ActR}
set_option maxRecDepth 100000 in
set_option maxHeartbeats 8000000 in
theorem means_in (h : ListV w v xs) (hf : fewB xs 60 = true) {kd : Nat} (hk : kd ≤ 4) : Calls Try.prog 3 #[.int .i64 kd, v] w fun e w' => e = .returned (.bool true) ∧ Fr (fun _ => False) w w' := by
  have F1 := few_any h 60
  rw [hf] at F1
  have hall : ∀ x ∈ xs, x.n ≤ 700 := by
    unfold fewB at hf
    rw [Bool.and_eq_true, decide_eq_true_eq] at hf
    exact hf.1
  have CP : ∀ W, Fr (fun _ => False) w W → Calls Try.prog 10 #[.int .i64 kd, v] W _ := fun W f => plays_any (h.new f) hk hall
  obtain ⟨P, hP⟩ : ∃ P, P = (PD.mk kd 0 []).play xs := ⟨_, rfl⟩
  have kP : P.Ok := by rw [hP]; exact play_ok (ok_new hk) xs
  have hPk : P.kind = kd := by rw [hP, play_kind]
  rw [← hP] at CP
  have HCP := Lib.hid CP
  have hlp := kP.len
  have C1 := fun W => May_any (w := W) kP
  have C2 := fun W => Kind_any (w := W) kP
  have C3 := fun W => Slots_any (w := W) kP
  have C4 := fun W => Next_any (w := W) kP
  have C5 := fun W => new_any (w := W) hk
  rw [hPk] at C2
  obtain ⟨m, hm⟩ : ∃ m, m = P.s.length := ⟨_, rfl⟩
  rw [← hm] at C3
  have hm9 : m ≤ 125 := by rw [hm]; exact kP.many
  obtain ⟨LP, hLP⟩ : ∃ L, L = P.bytes := ⟨_, rfl⟩
  obtain ⟨O1, hO1⟩ : ∃ O : Nat → List UInt8, O = fun j => (PD.mk kd 0 ((P.s.take j).map fu)).bytes := ⟨_, rfl⟩
  obtain ⟨O2, hO2⟩ : ∃ O : Nat → List UInt8, O = fun j => (PD.mk kd 0 (mids P.s j)).bytes := ⟨_, rfl⟩
  have hl1 : ∀ j, (O1 j).length = 512 := fun j => by rw [hO1]; have := full_ok kP j; rw [hPk] at this; exact this.len
  have hl2 : ∀ j, (O2 j).length = 512 := fun j => by rw [hO2]; have := mids_ok kP j; rw [hPk] at this; exact this.len
  have h12 : O1 m = O2 0 := by
    rw [hO1, hO2]
    simp only
    rw [hm, List.take_length, mids_zero]
  have hz : (PD.mk kd 0 []).bytes = O1 0 := by rw [hO1]; rfl
  rw [hz] at C5
  -- what Get answers
  have CG : ∀ j, j < m → (∃ b, (∀ W, Calls Try.prog 15 #[av P.bytes, .int .i64 j] W fun e w' => ∃ v, e = .returned (.tuple #[v, .int .i64 0]) ∧ NewB W w' v b ∧ Fr (fun _ => False) W w') ∧ b.length ≤ 400 ∧
      (∀ W A n c, n = b.length → Rd W A n b → Calls Try.prog 16 #[av (O1 j), .slice A n c] W fun e w' => e = .returned (.tuple #[av (O1 (j + 1)), .int .i64 j, .int .i64 0]) ∧ Fr (fun _ => False) W w') ∧ O2 (j + 1) = O2 j) ∨
      ((∀ W, Calls Try.prog 15 #[av P.bytes, .int .i64 j] W fun e w' => e = .returned (.tuple #[.slice none 0 0, .int .i64 6]) ∧ Fr (fun _ => False) W w') ∧
      (∀ W, Calls Try.prog 16 #[av (O1 j), .slice none 0 0] W fun e w' => e = .returned (.tuple #[av (O1 (j + 1)), .int .i64 j, .int .i64 0]) ∧ Fr (fun _ => False) W w') ∧
      (∀ W, Calls Try.prog 17 #[av (O2 j), .int .i64 j] W fun e w' => e = .returned (.tuple #[av (O2 (j + 1)), .int .i64 0]) ∧ Fr (fun _ => False) W w')) := fun j hj => by
    obtain ⟨o, ho⟩ : ∃ o, P.s[j]? = some o := ⟨_, List.getElem?_eq_getElem (by omega)⟩
    have hfo := full_ok kP j
    have hfo2 := full_ok kP (j + 1)
    obtain ⟨hfe, hfl⟩ := full_lay ho
    rw [hPk] at hfo hfo2 hfl
    have hlen : (o.getD []).length ≤ 400 := by
      cases o with
      | none => simp
      | some b => exact kP.rs b (List.mem_of_getElem? ho)
    have CL : ∀ W A n c, n = (o.getD []).length → Rd W A n (o.getD []) → Calls Try.prog 16 #[av (O1 j), .slice A n c] W fun e w' => e = .returned (.tuple #[av (O1 (j + 1)), .int .i64 j, .int .i64 0]) ∧ Fr (fun _ => False) W w' := fun W A n c hn hr => by
      have h := lay_any (c := c) hfo hr (by omega) (by rw [hfl]; exact hfo2.sz)
      rw [hfl] at h
      simp only [hfe] at h
      rw [hO1]
      exact h
    cases o with
    | some b =>
      refine .inl ⟨b, fun W => get_any kP ho, hlen, CL, ?_⟩
      rw [hO2]
      simp only
      rw [mids_some ho]
    | none =>
      refine .inr ⟨fun W => get_none fun w Q hQ => find_none hQ kP ho, fun W => CL W none 0 0 rfl (Rd.nil _ _), fun W => ?_⟩
      have hmo := mids_ok kP j
      have hd := mids_drop kP ho
      rw [hPk] at hmo hd
      have ht := take_any (w := W) hmo (i := j) (o := []) (mids_at ho)
      rw [hd] at ht
      rw [hO2]
      exact ht
  have hLk : ∀ W, Calls Try.prog 18 #[av (O2 m), .int .i64 (P.next : Nat)] W fun e w' => e = .returned (.tuple #[av P.bytes, .int .i64 0]) ∧ Fr (fun _ => False) W w' := fun W => by
    have hmo := mids_ok kP m
    have hk9 := link_any (w := W) hmo (m := P.next) kP.n
    have e1 : mids P.s m = P.s := by rw [hm]; exact mids_all _
    have e2 : (PD.mk P.kind 0 (mids P.s m)).link P.next = P := by rw [e1]; rfl
    rw [e2] at hk9
    rw [hO2]
    simp only
    rw [← hPk]
    exact hk9
  obtain ⟨nx, hnx⟩ : ∃ n, n = P.next := ⟨_, rfl⟩
  rw [← hnx] at C4 hLk
  rw [← hLP] at hlp HCP C1 C2 C3 C4 CG hLk
  have H1 := Lib.hid C1
  have H2 := Lib.hid C2
  have H3 := Lib.hid C3
  have H4 := Lib.hid C4
  have H5 := Lib.hid C5
  have HGt := Lib.hid CG
  have HLk := Lib.hid hLk
  have HO := Lib.hid (And.intro hl1 (And.intro hl2 h12))
  have HKN : Hid (∀ W, Calls Try.prog 9 #[] W fun e w' => e = .returned (.bool true) ∧ Fr (fun _ => False) W w') := Lib.hid known_any
  have HEQ : Hid (∀ W, (Op.equalIn 10000 26 (.agg (cellsB LP).toArray) (.agg (cellsB LP).toArray)).run Try.prog W = .ok true W) := Lib.hid (fun W => page_is LP hlp W)
  have hup := Try.underlying26
  have hinP : (Try.prog.info? 26).map (·.size) = some (cellsB LP).length := by rw [infoPage, cellsB_len, hlp]
  have hinL : ∀ L : List UInt8, L.length = 512 → (Try.prog.info? 26).map (·.size) = some (cellsB L).length := fun L hl => by rw [infoPage, cellsB_len, hl]
  have HIN := Lib.hid hinL
  have hk1 : ¬ ((kd : Int) < 0) := by omega
  have hk2 : ¬ ((kd : Int) > 4) := by omega
  have hk3 : ¬ (4 < (kd : Int)) := by omega
  clear CP C1 C2 C3 C4 C5 CG hLk hl1 hl2 h12 hz hO1 hO2 hPk kP hP hLP hnx h hf hall hinL hm
  go_enter Try.func3, Try.ntmps3
  go_wp2_with fail
  refine F1.mono ?_
  rintro e w1 ⟨rfl, f1⟩
  have HF1 := Lib.hid f1
  clear F1 f1
  go_wp2_with fail
  refine (HCP.out w1 HF1.out).mono ?_
  rintro e w2 ⟨rfl, f2⟩
  have HF2 := Lib.hid (HF1.out.trans f2 (fun _ _ q => q))
  clear f2 HF1 HCP
  go_upto_region 4 with (first | (refine wpList_zero rfl 26 rfl zeroPage ?_) | (refine wpList_store_mid rfl 26 _ _ rfl w2.heap.size 0 (cellsB LP).toArray rfl rfl (there_new w2 hlp) (by rw [infoPage]; simp [cellsB_len, hlp]) (all_oneCell_toArray (cellsB_one _)) ?_))
  obtain ⟨w3, hwx⟩ : ∃ X, X = (w2.alloc (.cells (cellsB (nought 512)).toArray 26)).setCells w2.heap.size 0 (cellsB LP) := ⟨_, rfl⟩
  have hbx := box_page hlp w3 hwx
  obtain ⟨g5, hg5⟩ : ∃ g, g = w2.heap.size := ⟨_, rfl⟩
  rw [← hg5] at hbx
  have HB5 := Lib.hid hbx.1
  have HF3 := Lib.hid (HF2.out.trans hbx.2 (fun _ _ q => q))
  have q0 := Lib.hid (page_range hbx.1 hlp)
  rw [← hwx, ← hg5]
  clear hwx hbx HF2 hg5
  go_wp2_with (refine wpList_load_want (by rfl) 26 _ rfl g5 0 rfl (cellsB LP) _ q0.out hup rfl hinP ?_)
  refine (H1.out _).mono ?_
  rintro e w4 ⟨rfl, f4⟩
  have HB54 := Lib.hid (HB5.out.keep f4 (fun q => q))
  have HF4 := Lib.hid (HF3.out.trans f4 (fun _ _ q => q))
  have q1 := Lib.hid (page_range HB54.out hlp)
  clear f4 q0 HB5 HF3 H1
  go_wp2_with (refine wpList_load_want (by rfl) 26 _ rfl g5 0 rfl (cellsB LP) _ q1.out hup rfl hinP ?_)
  refine (H2.out _).mono ?_
  rintro e w5 ⟨rfl, f5⟩
  have HB55 := Lib.hid (HB54.out.keep f5 (fun q => q))
  have HF5 := Lib.hid (HF4.out.trans f5 (fun _ _ q => q))
  clear f5 q1 HB54 HF4 H2
  have hkk : ((kd : Int) != (kd : Int)) = false := by simp
  go_wp2_with fail
  refine (H5.out _).mono ?_
  rintro e w6 ⟨rfl, f6⟩
  have HB56 := Lib.hid (HB55.out.keep f6 (fun q => q))
  have HF6 := Lib.hid (HF5.out.trans f6 (fun _ _ q => q))
  have hl0 := HO.out.1 0
  clear f6 HB55 HF5 H5 hkk
  go_upto_region 7 with (first | (refine wpList_zero rfl 26 rfl zeroPage ?_) | (refine wpList_store_mid rfl 26 _ _ rfl w6.heap.size 0 (cellsB (O1 0)).toArray rfl rfl (there_new w6 hl0) (by rw [infoPage]; simp [cellsB_len, hl0]) (all_oneCell_toArray (cellsB_one _)) ?_))
  obtain ⟨w7, hwx⟩ : ∃ X, X = (w6.alloc (.cells (cellsB (nought 512)).toArray 26)).setCells w6.heap.size 0 (cellsB (O1 0)) := ⟨_, rfl⟩
  have hbx := box_page hl0 w7 hwx
  obtain ⟨g7, hg7⟩ : ∃ g, g = w6.heap.size := ⟨_, rfl⟩
  rw [← hg7] at hbx
  have hne : g5 ≠ g7 := by have := HB56.out.lt; omega
  have hge : w.heap.size ≤ g7 := by rw [hg7]; exact HF6.out.size
  have HB57 := Lib.hid (HB56.out.keep hbx.2 (fun q => q))
  have HB7 := Lib.hid hbx.1
  have HF7 := Lib.hid (HF6.out.trans hbx.2 (fun _ _ q => q))
  have HGE := Lib.hid (And.intro hne hge)
  rw [← hwx, ← hg7]
  clear hwx hbx HF6 HB56 hg7 hne hge hl0
  go_wp2_with fail
  go_loopw [8, 10] (fun s8 i wr => ∃ j : Nat, s8 = .int .i64 0 ∧ i = .int .i64 j ∧ j ≤ m ∧ Hid (Blk wr g7 26 (cellsB (O1 j)).toArray) ∧ Hid (Blk wr g5 26 (cellsB LP).toArray) ∧ Hid (Fr (fun _ => False) w wr)) (fun _ i _ => m - (intOf i).toNat)
  case atStart => exact ⟨0, rfl, rfl, Nat.zero_le _, HB7, HB57, HF7⟩
  case round =>
    obtain ⟨j, rfl, rfl, hj, HBo, HBp, HFk⟩ := hrel
    clear HB7 HB57 HF7
    have q0 := Lib.hid (page_range HBp.out hlp)
    by_cases hlt : j < m
    · have hi1 : (j : Int) < (m : Int) := by omega
      have hlj := HO.out.1 j
      have hlj1 := HO.out.1 (j + 1)
      have hinJ := HIN.out _ hlj
      go_wp2_with (refine wpList_load_want (by rfl) 26 _ rfl g5 0 rfl (cellsB LP) _ q0.out hup rfl hinP ?_)
      refine (H3.out _).mono ?_
      rintro e w8 ⟨rfl, f8⟩
      have HBp8 := Lib.hid (HBp.out.keep f8 (fun q => q))
      have HBo8 := Lib.hid (HBo.out.keep f8 (fun q => q))
      have HF8 := Lib.hid (HFk.out.trans f8 (fun _ _ q => q))
      have q1 := Lib.hid (page_range HBp8.out hlp)
      clear f8 q0 HBp HBo HFk
      have hjj : ((j : Int) != (j : Int)) = false := by simp
      go_wp2_with (refine wpList_load_want (by rfl) 26 _ rfl g5 0 rfl (cellsB LP) _ q1.out hup rfl hinP ?_)
      rcases HGt.out j hlt with ⟨b, CGet, hb4, CLay, -⟩ | ⟨CGet, CLay, -⟩
      · have HLy := Lib.hid CLay
        refine (CGet _).mono ?_
        rintro e w9 ⟨vg, rfl, hnew, f9⟩
        obtain ⟨Ag, cg, rfl, hrg, -, -, -⟩ := hnew
        have HRG := Lib.hid hrg
        have CL2 : Calls Try.prog 16 #[av (O1 j), .slice Ag b.length cg] w9 _ := HLy.out w9 Ag b.length cg rfl hrg
        clear hrg CGet CLay
        have HBp9 := Lib.hid (HBp8.out.keep f9 (fun q => q))
        have HBo9 := Lib.hid (HBo8.out.keep f9 (fun q => q))
        have HF9 := Lib.hid (HF8.out.trans f9 (fun _ _ q => q))
        have q2 := Lib.hid (page_range HBo9.out hlj)
        have HC2 := Lib.hid CL2
        clear f9 q1 HBp8 HBo8 HF8 CL2
        go_wp2_with (refine wpList_load_want (by rfl) 26 _ rfl g7 0 rfl (cellsB (O1 j)) _ q2.out hup rfl hinJ ?_)
        refine HC2.out.mono ?_
        rintro e wa ⟨rfl, fa⟩
        clear HC2 q2
        have hb7 := HBo9.out.keep fa (fun q => q)
        have hbo := hb7.over (o := 0) (m := (O1 (j + 1))) (by omega)
        rw [patch_all (by omega)] at hbo
        have hsp := (HBp9.out.keep fa (fun q => q)).keep (F := fun q => q = g7) (Fr.setCells (F := fun q => q = g7) (b := g7) (vs := cellsB (O1 (j + 1))) (o := 0) (.inl rfl) (Fr.refl _ wa)) HGE.out.1
        have hsf := Fr.setCells (F := fun _ => False) (b := g7) (vs := cellsB (O1 (j + 1))) (o := 0) (.inr HGE.out.2) (HF9.out.trans fa (fun _ _ q => q))
        have HB7s := Lib.hid hb7
        have HBZ := Lib.hid hbo
        have HBpz := Lib.hid hsp
        have HFz := Lib.hid hsf
        clear hb7 hbo hsp hsf fa
        go_wp2_with (refine wpList_store_mid rfl 26 _ _ rfl g7 0 (cellsB ((O1 (j + 1)))).toArray rfl rfl (HB7s.out.there (by simp [cellsB_len, hlj, hlj1])) (by rw [infoPage]; simp [cellsB_len, hlj1]) (all_oneCell_toArray (cellsB_one _)) ?_)
        exact ⟨⟨j + 1, rfl, by go_num, by omega, HBZ, HBpz, HFz⟩, by simp [intOf]; omega⟩
      · have CL2 := fun W => CLay W
        have HLy := Lib.hid CL2
        refine (CGet _).mono ?_
        rintro e w9 ⟨rfl, f9⟩
        have CL2 := HLy.out w9
        clear CGet CLay
        have HBp9 := Lib.hid (HBp8.out.keep f9 (fun q => q))
        have HBo9 := Lib.hid (HBo8.out.keep f9 (fun q => q))
        have HF9 := Lib.hid (HF8.out.trans f9 (fun _ _ q => q))
        have q2 := Lib.hid (page_range HBo9.out hlj)
        have HC2 := Lib.hid CL2
        clear f9 q1 HBp8 HBo8 HF8 CL2
        go_wp2_with (refine wpList_load_want (by rfl) 26 _ rfl g7 0 rfl (cellsB (O1 j)) _ q2.out hup rfl hinJ ?_)
        refine HC2.out.mono ?_
        rintro e wa ⟨rfl, fa⟩
        clear HC2 q2
        have hb7 := HBo9.out.keep fa (fun q => q)
        have hbo := hb7.over (o := 0) (m := (O1 (j + 1))) (by omega)
        rw [patch_all (by omega)] at hbo
        have hsp := (HBp9.out.keep fa (fun q => q)).keep (F := fun q => q = g7) (Fr.setCells (F := fun q => q = g7) (b := g7) (vs := cellsB (O1 (j + 1))) (o := 0) (.inl rfl) (Fr.refl _ wa)) HGE.out.1
        have hsf := Fr.setCells (F := fun _ => False) (b := g7) (vs := cellsB (O1 (j + 1))) (o := 0) (.inr HGE.out.2) (HF9.out.trans fa (fun _ _ q => q))
        have HB7s := Lib.hid hb7
        have HBZ := Lib.hid hbo
        have HBpz := Lib.hid hsp
        have HFz := Lib.hid hsf
        clear hb7 hbo hsp hsf fa
        go_wp2_with (refine wpList_store_mid rfl 26 _ _ rfl g7 0 (cellsB ((O1 (j + 1)))).toArray rfl rfl (HB7s.out.there (by simp [cellsB_len, hlj, hlj1])) (by rw [infoPage]; simp [cellsB_len, hlj1]) (all_oneCell_toArray (cellsB_one _)) ?_)
        exact ⟨⟨j + 1, rfl, by go_num, by omega, HBZ, HBpz, HFz⟩, by simp [intOf]; omega⟩
    · obtain rfl : m = j := by omega
      have HBo2 : Hid (Blk wr g7 26 (cellsB (O2 0)).toArray) := Lib.hid (by rw [← HO.out.2.2]; exact HBo.out)
      clear hlt hj HBo
      go_wp2_with (refine wpList_load_want (by rfl) 26 _ rfl g5 0 rfl (cellsB LP) _ q0.out hup rfl hinP ?_)
      refine (H3.out _).mono ?_
      rintro e w8 ⟨rfl, f8⟩
      have HBp8 := Lib.hid (HBp.out.keep f8 (fun q => q))
      have HBo8 := Lib.hid (HBo2.out.keep f8 (fun q => q))
      have HF8 := Lib.hid (HFk.out.trans f8 (fun _ _ q => q))
      clear f8 q0 HBp HBo2 HFk
      have hmm : ¬ ((m : Int) < (m : Int)) := by omega
      go_wp2_with fail
      go_loopw [8, 13] (fun s8 i wr => ∃ j : Nat, s8 = .int .i64 0 ∧ i = .int .i64 j ∧ j ≤ m ∧ Hid (Blk wr g7 26 (cellsB (O2 j)).toArray) ∧ Hid (Blk wr g5 26 (cellsB LP).toArray) ∧ Hid (Fr (fun _ => False) w wr)) (fun _ i _ => m - (intOf i).toNat)
      case atStart => exact ⟨0, rfl, rfl, Nat.zero_le _, HBo8, HBp8, HF8⟩
      case round =>
        obtain ⟨j, rfl, rfl, hj, HBo, HBp, HFk⟩ := hrel
        clear HBo8 HBp8 HF8 hmm
        have q0 := Lib.hid (page_range HBp.out hlp)
        by_cases hlt : j < m
        · have hi1 : (j : Int) < (m : Int) := by omega
          have hlj := HO.out.2.1 j
          have hlj1 := HO.out.2.1 (j + 1)
          have hinJ := HIN.out _ hlj
          go_wp2_with (refine wpList_load_want (by rfl) 26 _ rfl g5 0 rfl (cellsB LP) _ q0.out hup rfl hinP ?_)
          refine (H3.out _).mono ?_
          rintro e w8 ⟨rfl, f8⟩
          have HBp8 := Lib.hid (HBp.out.keep f8 (fun q => q))
          have HBo8 := Lib.hid (HBo.out.keep f8 (fun q => q))
          have HF8 := Lib.hid (HFk.out.trans f8 (fun _ _ q => q))
          have q1 := Lib.hid (page_range HBp8.out hlp)
          clear f8 q0 HBp HBo HFk
          go_wp2_with (refine wpList_load_want (by rfl) 26 _ rfl g5 0 rfl (cellsB LP) _ q1.out hup rfl hinP ?_)
          rcases HGt.out j hlt with ⟨b, CGet, hb4, -, hsame⟩ | ⟨CGet, -, CTk⟩
          · refine (CGet _).mono ?_
            rintro e w9 ⟨vg, rfl, hnew, f9⟩
            obtain ⟨Ag, cg, rfl, -, -, -, -⟩ := hnew
            have HBp9 := Lib.hid (HBp8.out.keep f9 (fun q => q))
            have HBo9 : Hid (Blk w9 g7 26 (cellsB (O2 (j + 1))).toArray) := Lib.hid (by rw [hsame]; exact HBo8.out.keep f9 (fun q => q))
            have HF9 := Lib.hid (HF8.out.trans f9 (fun _ _ q => q))
            clear f9 q1 HBp8 HBo8 HF8 CGet hsame hb4
            go_wp2_with fail
            exact ⟨⟨j + 1, rfl, by go_num, by omega, HBo9, HBp9, HF9⟩, by simp [intOf]; omega⟩
          · have HTk := Lib.hid CTk
            refine (CGet _).mono ?_
            rintro e w9 ⟨rfl, f9⟩
            have HBp9 := Lib.hid (HBp8.out.keep f9 (fun q => q))
            have HBo9 := Lib.hid (HBo8.out.keep f9 (fun q => q))
            have HF9 := Lib.hid (HF8.out.trans f9 (fun _ _ q => q))
            have q2 := Lib.hid (page_range HBo9.out hlj)
            clear f9 q1 HBp8 HBo8 HF8 CGet CTk
            go_wp2_with (refine wpList_load_want (by rfl) 26 _ rfl g7 0 rfl (cellsB (O2 j)) _ q2.out hup rfl hinJ ?_)
            refine (HTk.out _).mono ?_
            rintro e wa ⟨rfl, fa⟩
            clear q2 HTk
            have hb7 := HBo9.out.keep fa (fun q => q)
            have hbo := hb7.over (o := 0) (m := (O2 (j + 1))) (by omega)
            rw [patch_all (by omega)] at hbo
            have hsp := (HBp9.out.keep fa (fun q => q)).keep (F := fun q => q = g7) (Fr.setCells (F := fun q => q = g7) (b := g7) (vs := cellsB (O2 (j + 1))) (o := 0) (.inl rfl) (Fr.refl _ wa)) HGE.out.1
            have hsf := Fr.setCells (F := fun _ => False) (b := g7) (vs := cellsB (O2 (j + 1))) (o := 0) (.inr HGE.out.2) (HF9.out.trans fa (fun _ _ q => q))
            have HB7s := Lib.hid hb7
            have HBZ := Lib.hid hbo
            have HBpz := Lib.hid hsp
            have HFz := Lib.hid hsf
            clear hb7 hbo hsp hsf fa
            go_wp2_with (refine wpList_store_mid rfl 26 _ _ rfl g7 0 (cellsB ((O2 (j + 1)))).toArray rfl rfl (HB7s.out.there (by simp [cellsB_len, hlj, hlj1])) (by rw [infoPage]; simp [cellsB_len, hlj1]) (all_oneCell_toArray (cellsB_one _)) ?_)
            exact ⟨⟨j + 1, rfl, by go_num, by omega, HBZ, HBpz, HFz⟩, by simp [intOf]; omega⟩
        · obtain rfl : m = j := by omega
          have hlm := HO.out.2.1 m
          have hinM := HIN.out _ hlm
          clear hlt hj
          go_wp2_with (refine wpList_load_want (by rfl) 26 _ rfl g5 0 rfl (cellsB LP) _ q0.out hup rfl hinP ?_)
          refine (H3.out _).mono ?_
          rintro e w8 ⟨rfl, f8⟩
          have HBp8 := Lib.hid (HBp.out.keep f8 (fun q => q))
          have HBo8 := Lib.hid (HBo.out.keep f8 (fun q => q))
          have HF8 := Lib.hid (HFk.out.trans f8 (fun _ _ q => q))
          clear f8 q0 HBp HBo HFk H3
          have hmm : ¬ ((m : Int) < (m : Int)) := by omega
          go_upto_region 25 with (fail)
          have HPp : Hid (∀ W, Fr (fun q => q = g7) w8 W → W.rangeAt g5 0 (cellsB LP)) := Lib.hid fun W f => page_range (HBp8.out.keep f HGE.out.1) hlp
          have HPo : Hid (∀ W, Fr (fun _ => False) w8 W → W.rangeAt g7 0 (cellsB (O2 m))) := Lib.hid fun W f => page_range (HBo8.out.keep f (fun q => q)) hlm
          refine wp_region_held_drew (S := fun w' => Fr (fun q => q = g7) w8 w') (by kernel_rfl) ((Fr.refl _ _).drew) (fun hS0 => ?_)
          refine anyH_take 1 112 (av LP) rfl rfl (by kernel_rfl) (by kernel_rfl) (by kernel_rfl) (fun _ _ _ h => h) (yieldsIf_load_mid (by rfl) _ _ rfl _ _ rfl _ _ (fun w' f => HPp.out w' f) hup rfl hinP) hS0 ?_
          (simp only [List.setIfInBounds_toArray, List.set_cons_zero, List.set_cons_succ])
          refine anyH_alt 0 2 (by kernel_rfl) ?_ ?_
          · refine wpOp_value 111 (av (O2 m)) rfl rfl (by rfl) (run_load_mid 26 _ rfl g7 0 rfl (cellsB (O2 m)) _ (HPo.out _ ((Fr.refl (fun _ => False) _).drew)) hup rfl hinM) ⟨hS0, ?_⟩
            (simp only [List.setIfInBounds_toArray, List.set_cons_zero, List.set_cons_succ])
            refine anyH_enter 2 113 (by kernel_rfl) rfl rfl (by rfl) (by go_simp) ((H4.out _).mono ?_)
            rintro e wl ⟨rfl, fwl⟩
            have fvl : Fr (fun _ => False) w8 wl := ((Fr.refl (fun _ => False) w8).drew).trans fwl (fun _ _ q => q)
            have swl : Fr (fun q => q = g7) w8 wl := fvl.mono (fun _ _ q => q.elim)
            refine ⟨_, rfl, swl, ?_⟩
            (simp only [List.setIfInBounds_toArray, List.set_cons_zero, List.set_cons_succ])
            refine anyH_enter 3 114 (by kernel_rfl) rfl rfl (by rfl) (by go_simp) ((HLk.out _).mono ?_)
            rintro e wn ⟨rfl, fwn⟩
            have fvn : Fr (fun _ => False) w8 wn := fvl.trans fwn (fun _ _ q => q)
            have swn : Fr (fun q => q = g7) w8 wn := fvn.mono (fun _ _ q => q.elim)
            refine ⟨_, rfl, swn, ?_⟩
            (simp only [List.setIfInBounds_toArray, List.set_cons_zero, List.set_cons_succ])
            refine anyH_take 4 110 (.tuple #[av LP, .int .i64 0]) rfl rfl (by kernel_rfl) (by kernel_rfl) (by kernel_rfl) (fun _ _ _ h => h) (.inl ⟨by rfl, fun w'' hS => by go_simp⟩) swn ?_
            (simp only [List.setIfInBounds_toArray, List.set_cons_zero, List.set_cons_succ])
            refine anyH_take 5 115 (av LP) rfl rfl (by kernel_rfl) (by kernel_rfl) (by kernel_rfl) (fun _ _ _ h => h) (.inl ⟨by rfl, fun w'' hS => by go_simp⟩) swn ?_
            (simp only [List.setIfInBounds_toArray, List.set_cons_zero, List.set_cons_succ])
            refine anyH_take 6 116 (.int .i64 0) rfl rfl (by kernel_rfl) (by kernel_rfl) (by kernel_rfl) (fun _ _ _ h => h) (.inl ⟨by rfl, fun w'' hS => by go_simp⟩) swn ?_
            (simp only [List.setIfInBounds_toArray, List.set_cons_zero, List.set_cons_succ])
            have hb8 := HBo8.out.keep fvn (fun q => q)
            refine anyH_skip 7 _ (by kernel_rfl) rfl rfl (by rfl) (run_store_mid 26 _ _ rfl g7 0 (cellsB LP).toArray rfl rfl (hb8.there (by simp [cellsB_len, hlm, hlp])) (by rw [infoPage]; simp [cellsB_len, hlp]) (all_oneCell_toArray (cellsB_one _))) (Fr.setCells (F := fun q => q = g7) (.inl rfl) swn) ?_
            have hbo := hb8.over (o := 0) (m := LP) (by omega)
            rw [patch_all (by omega)] at hbo
            have hS2 := Fr.setCells (F := fun q => q = g7) (b := g7) (vs := cellsB LP) (o := 0) (.inl rfl) swn
            refine anyH_take 8 8 (.int .i64 0) rfl rfl (by kernel_rfl) (by kernel_rfl) (by kernel_rfl) (fun _ _ _ h => h) (.inl ⟨by rfl, fun w'' hS => by go_simp⟩) hS2 ?_
            (simp only [List.setIfInBounds_toArray, List.set_cons_zero, List.set_cons_succ])
            refine wpAnyH_done (by kernel_rfl) ?_ _
            have hfz : Fr (fun _ => False) w (wn.setCells g7 0 (cellsB LP)) := Fr.setCells (F := fun _ => False) (b := g7) (vs := cellsB LP) (o := 0) (.inr HGE.out.2) (HF8.out.trans fvn (fun _ _ q => q))
            obtain ⟨wm, hwm⟩ : ∃ W, W = wn.setCells g7 0 (cellsB LP) := ⟨_, rfl⟩
            rw [← hwm] at hbo hfz hS2 ⊢
            have r7 := Lib.hid (page_range hbo hlp)
            have r5 := Lib.hid (HPp.out wm hS2)
            have HFM := Lib.hid hfz
            have heq := HEQ.out wm
            clear hbo hfz hS2 hwm hb8 swn fwn fvn hS0
            go_wp2_with (first | (refine wpList_load_want (by rfl) 26 _ rfl g7 0 rfl (cellsB LP) _ r7.out hup rfl hinP ?_) | (refine wpList_load_want (by rfl) 26 _ rfl g5 0 rfl (cellsB LP) _ r5.out hup rfl hinP ?_))
            refine (HKN.out _).mono ?_
            rintro e wz ⟨rfl, fz⟩
            have HFF := Lib.hid (HFM.out.trans fz (fun _ _ q => q))
            clear fz
            go_wp2_with fail
            go_ret
            exact ⟨rfl, HFF.out⟩
          · refine wpOp_call 113 rfl rfl (by rfl) (by go_simp) ((H4.out _).mono ?_)
            rintro e wl ⟨rfl, fwl⟩
            have fvl : Fr (fun _ => False) w8 wl := ((Fr.refl (fun _ => False) w8).drew).trans fwl (fun _ _ q => q)
            have swl : Fr (fun q => q = g7) w8 wl := fvl.mono (fun _ _ q => q.elim)
            refine ⟨_, rfl, swl, ?_⟩
            (simp only [List.setIfInBounds_toArray, List.set_cons_zero, List.set_cons_succ])
            refine anyH_value 0 111 (av (O2 m)) wl (by kernel_rfl) rfl rfl (by rfl) (run_load_mid 26 _ rfl g7 0 rfl (cellsB (O2 m)) _ (HPo.out _ fvl) hup rfl hinM) swl ?_
            (simp only [List.setIfInBounds_toArray, List.set_cons_zero, List.set_cons_succ])
            refine anyH_enter 3 114 (by kernel_rfl) rfl rfl (by rfl) (by go_simp) ((HLk.out _).mono ?_)
            rintro e wn ⟨rfl, fwn⟩
            have fvn : Fr (fun _ => False) w8 wn := fvl.trans fwn (fun _ _ q => q)
            have swn : Fr (fun q => q = g7) w8 wn := fvn.mono (fun _ _ q => q.elim)
            refine ⟨_, rfl, swn, ?_⟩
            (simp only [List.setIfInBounds_toArray, List.set_cons_zero, List.set_cons_succ])
            refine anyH_take 4 110 (.tuple #[av LP, .int .i64 0]) rfl rfl (by kernel_rfl) (by kernel_rfl) (by kernel_rfl) (fun _ _ _ h => h) (.inl ⟨by rfl, fun w'' hS => by go_simp⟩) swn ?_
            (simp only [List.setIfInBounds_toArray, List.set_cons_zero, List.set_cons_succ])
            refine anyH_take 5 115 (av LP) rfl rfl (by kernel_rfl) (by kernel_rfl) (by kernel_rfl) (fun _ _ _ h => h) (.inl ⟨by rfl, fun w'' hS => by go_simp⟩) swn ?_
            (simp only [List.setIfInBounds_toArray, List.set_cons_zero, List.set_cons_succ])
            refine anyH_take 6 116 (.int .i64 0) rfl rfl (by kernel_rfl) (by kernel_rfl) (by kernel_rfl) (fun _ _ _ h => h) (.inl ⟨by rfl, fun w'' hS => by go_simp⟩) swn ?_
            (simp only [List.setIfInBounds_toArray, List.set_cons_zero, List.set_cons_succ])
            have hb8 := HBo8.out.keep fvn (fun q => q)
            refine anyH_skip 7 _ (by kernel_rfl) rfl rfl (by rfl) (run_store_mid 26 _ _ rfl g7 0 (cellsB LP).toArray rfl rfl (hb8.there (by simp [cellsB_len, hlm, hlp])) (by rw [infoPage]; simp [cellsB_len, hlp]) (all_oneCell_toArray (cellsB_one _))) (Fr.setCells (F := fun q => q = g7) (.inl rfl) swn) ?_
            have hbo := hb8.over (o := 0) (m := LP) (by omega)
            rw [patch_all (by omega)] at hbo
            have hS2 := Fr.setCells (F := fun q => q = g7) (b := g7) (vs := cellsB LP) (o := 0) (.inl rfl) swn
            refine anyH_take 8 8 (.int .i64 0) rfl rfl (by kernel_rfl) (by kernel_rfl) (by kernel_rfl) (fun _ _ _ h => h) (.inl ⟨by rfl, fun w'' hS => by go_simp⟩) hS2 ?_
            (simp only [List.setIfInBounds_toArray, List.set_cons_zero, List.set_cons_succ])
            refine wpAnyH_done (by kernel_rfl) ?_ _
            have hfz : Fr (fun _ => False) w (wn.setCells g7 0 (cellsB LP)) := Fr.setCells (F := fun _ => False) (b := g7) (vs := cellsB LP) (o := 0) (.inr HGE.out.2) (HF8.out.trans fvn (fun _ _ q => q))
            obtain ⟨wm, hwm⟩ : ∃ W, W = wn.setCells g7 0 (cellsB LP) := ⟨_, rfl⟩
            rw [← hwm] at hbo hfz hS2 ⊢
            have r7 := Lib.hid (page_range hbo hlp)
            have r5 := Lib.hid (HPp.out wm hS2)
            have HFM := Lib.hid hfz
            have heq := HEQ.out wm
            clear hbo hfz hS2 hwm hb8 swn fwn fvn hS0
            go_wp2_with (first | (refine wpList_load_want (by rfl) 26 _ rfl g7 0 rfl (cellsB LP) _ r7.out hup rfl hinP ?_) | (refine wpList_load_want (by rfl) 26 _ rfl g5 0 rfl (cellsB LP) _ r5.out hup rfl hinP ?_))
            refine (HKN.out _).mono ?_
            rintro e wz ⟨rfl, fz⟩
            have HFF := Lib.hid (HFM.out.trans fz (fun _ _ q => q))
            clear fz
            go_wp2_with fail
            go_ret
            exact ⟨rfl, HFF.out⟩
set_option maxRecDepth 100000 in
theorem law_means (h : ListV w v xs) (kd : Int) : Calls Try.prog 3 #[.int .i64 kd, v] w fun e w' => e = .returned (.bool true) ∧ Fr (fun _ => False) w w' := by
  by_cases hf : fewB xs 60 = true
  · by_cases hk : 0 ≤ kd
    · by_cases hk2 : kd ≤ 4
      · obtain ⟨k, rfl⟩ : ∃ k : Nat, kd = k := ⟨kd.toNat, by omega⟩
        exact means_in h hf (by omega)
      · have q1 : ¬ (kd < 0) := by omega
        have q2 : kd > 4 := by omega
        have F1 := few_any h 60
        rw [hf] at F1
        clear h hf
        go_enter Try.func3, Try.ntmps3
        go_wp2_with fail
        refine F1.mono ?_
        rintro e w1 ⟨rfl, f1⟩
        clear F1
        go_wp2_with fail
        refine (known_any w1).mono ?_
        rintro e w2 ⟨rfl, f2⟩
        have HF := Lib.hid (f1.trans f2 (fun _ _ q => q))
        clear f1 f2
        go_wp2_with fail
        go_ret
        exact ⟨rfl, HF.out⟩
    · have q1 : kd < 0 := by omega
      have F1 := few_any h 60
      rw [hf] at F1
      clear h hf
      go_enter Try.func3, Try.ntmps3
      go_wp2_with fail
      refine F1.mono ?_
      rintro e w1 ⟨rfl, f1⟩
      clear F1
      go_wp2_with fail
      refine (known_any w1).mono ?_
      rintro e w2 ⟨rfl, f2⟩
      have HF := Lib.hid (f1.trans f2 (fun _ _ q => q))
      clear f1 f2
      go_wp2_with fail
      go_ret
      exact ⟨rfl, HF.out⟩
  · have hf2 : fewB xs 60 = false := by simpa using hf
    have F1 := few_any h 60
    rw [hf2] at F1
    clear h hf
    go_enter Try.func3, Try.ntmps3
    go_wp2_with fail
    refine F1.mono ?_
    rintro e w1 ⟨rfl, f1⟩
    clear F1
    go_wp2_with fail
    refine (known_any w1).mono ?_
    rintro e w2 ⟨rfl, f2⟩
    have HF := Lib.hid (f1.trans f2 (fun _ _ q => q))
    clear f1 f2
    go_wp2_with fail
    go_ret
    exact ⟨rfl, HF.out⟩
end
end Go.Proofs.Ytijdbngjnhhheaa
