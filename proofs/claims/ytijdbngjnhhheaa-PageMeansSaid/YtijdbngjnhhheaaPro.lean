/- The law PageRoom. -/
import Derived.Test.YtijdbngjnhhheaaPpl
namespace Go.Proofs.Ytijdbngjnhhheaa
open Go.RowKit

set_option maxRecDepth 100000 in
theorem trimK_app (s t : List Rec) : ∀ k, k ≤ s.length → trimK (s ++ t) k = trimK s k
  | 0, _ => rfl
  | k + 1, h => by
    have e : isB (s ++ t) k = isB s k := by
      unfold isB
      rw [List.getElem?_append_left (by omega)]
    unfold trimK
    rw [e, trimK_app s t k (by omega)]
set_option maxRecDepth 100000 in
theorem trim_none (s : List Rec) : trim (s ++ [none]) = trim s := by
  have e : trimK (s ++ [none]) (s ++ [none]).length = trimK s s.length := by
    rw [List.length_append, List.length_singleton]
    have hb : isB (s ++ [none]) s.length = false := by simp [isB]
    conv => lhs; unfold trimK
    rw [hb]
    simp only [Bool.false_eq_true, if_false]
    exact trimK_app s [none] s.length (Nat.le_refl _)
  unfold trim
  rw [e, List.take_append_of_le_length (trimK_le s _)]
set_option maxRecDepth 100000 in
theorem firstE_empty {s : List Rec} (h : firstE s < s.length) : s[firstE s]? = some none := by
  induction s with
  | nil => simp at h
  | cons o s ih =>
    cases o with
    | none => simp [firstE]
    | some b =>
      simp only [firstE, List.length_cons] at h ⊢
      rw [List.getElem?_cons_succ]
      exact ih (by omega)
set_option maxRecDepth 100000 in
/-- A record that is laid and taken out again leaves the page as it was. -/
theorem drop_lay {x : PD} (k : x.Ok) (b : List UInt8) : (x.lay b).drop (firstE x.s) = x := by
  have hle := firstE_le x.s
  have hs : trim (putS (putS x.s (firstE x.s) (some b)) (firstE x.s) none) = x.s := by
    by_cases h : firstE x.s < x.s.length
    · have e1 : putS x.s (firstE x.s) (some b) = x.s.set (firstE x.s) (some b) := by unfold putS; rw [if_pos h]
      rw [e1]
      have e2 : putS (x.s.set (firstE x.s) (some b)) (firstE x.s) none = x.s.set (firstE x.s) none := by
        unfold putS
        rw [if_pos (by rw [List.length_set]; exact h), List.set_set]
      rw [e2]
      have e3 : x.s.set (firstE x.s) none = x.s := by
        have h1 := firstE_empty h
        obtain ⟨h2, h3⟩ := List.getElem?_eq_some_iff.1 h1
        conv => lhs; rw [← h3]
        exact List.set_getElem_self h2
      rw [e3]
      exact trim_self k.ls
    · have e : firstE x.s = x.s.length := by omega
      rw [e]
      have e1 : putS x.s x.s.length (some b) = x.s ++ [some b] := by unfold putS; rw [if_neg (by omega)]
      rw [e1]
      have e2 : putS (x.s ++ [some b]) x.s.length none = x.s ++ [none] := by
        unfold putS
        rw [if_pos (by simp), List.set_append_right _ _ (Nat.le_refl _), Nat.sub_self]
        rfl
      rw [e2, trim_none]
      exact trim_self k.ls
  obtain ⟨kd, nx, s⟩ := x
  unfold PD.drop PD.lay
  simp only at hs ⊢
  rw [hs]
set_option maxRecDepth 100000 in
theorem lay_at {x : PD} (b : List UInt8) : (x.lay b).s[firstE x.s]? = some (some b) := by
  unfold PD.lay
  simp only
  rw [putS_get _ _ (firstE_le x.s), if_pos rfl]
set_option maxRecDepth 100000 in
theorem no_lay {x : PD} {a : ActP} (h : a.kd = 1) : noOf x a = if 400 < a.b.length then 3 else if 512 < (x.lay a.b).size then 8 else 0 := by
  have hw : x.want a = x.lay a.b := by unfold PD.want; rw [if_pos h]
  have hn0 : no0 x a = 0 := by unfold no0; rw [if_neg (by omega), if_neg (by omega)]
  unfold noOf
  rw [hw]
  by_cases h4 : 400 < a.b.length
  · have h1 : no1 x a = 3 := by unfold no1; rw [if_pos ⟨by omega, h4⟩]
    rw [h1, if_pos h4]
    rfl
  · have h1 : no1 x a = 0 := by unfold no1; rw [if_neg (fun q => h4 q.2), hn0]
    rw [h1, if_neg h4]
    by_cases h5 : 512 < (x.lay a.b).size
    · rw [if_pos ⟨rfl, h5⟩, if_pos h5]
    · rw [if_neg (fun q => h5 q.2), if_neg h5]
section
variable {w : World} {v : Value} {xs : List ActR}
set_option maxRecDepth 100000 in
set_option maxHeartbeats 4000000 in
theorem room_in (h : ListV w v xs) (hf : fewB xs 60 = true) {kd n : Nat} (hk : kd ≤ 4) (hn : n ≤ 700) : Calls Try.prog 4 #[.int .i64 kd, v, .int .i64 n] w fun e w' => e = .returned (.bool true) ∧ Fr (fun _ => False) w w' := by
  have F1 := few_any h 60
  rw [hf] at F1
  have hall : ∀ x ∈ xs, x.n ≤ 700 := by
    unfold fewB at hf
    rw [Bool.and_eq_true, decide_eq_true_eq] at hf
    exact hf.1
  have CP : ∀ W, Fr (fun _ => False) w W → Calls Try.prog 10 #[.int .i64 kd, v] W _ := fun W f => plays_any (h.new f) hk hall
  obtain ⟨P, hP⟩ : ∃ P, P = (PD.mk kd 0 []).play xs := ⟨_, rfl⟩
  have kP : P.Ok := by rw [hP]; exact play_ok (ok_new hk) xs
  rw [← hP] at CP
  have HCP := Lib.hid CP
  obtain ⟨Lo, z10, e9, ho, hC⟩ := lay_all kP (a := ⟨1, 0, 0, nought n⟩) rfl
  have hlo := ho.len
  have hlp := kP.len
  have CR := fun W => Room_any (w := W) kP
  have hfit := lay_fits kP (nought n)
  rw [nought_len] at hfit
  have hno := no_lay (x := P) (a := ⟨1, 0, 0, nought n⟩) rfl
  simp only [nought_len] at hno
  have hnoz : noOf P ⟨1, 0, 0, nought n⟩ = 0 ↔ (n : Int) ≤ P.room := by
    rw [hfit, hno]
    by_cases h4 : 400 < n
    · rw [if_pos h4]; omega
    · rw [if_neg h4]
      by_cases h5 : 512 < (P.lay (nought n)).size
      · rw [if_pos h5]; omega
      · rw [if_neg h5]; omega
  have hno3 : 400 < n → noOf P ⟨1, 0, 0, nought n⟩ = 3 := fun h4 => by rw [hno, if_pos h4]
  have hno8 : ¬ 400 < n → ¬ ((n : Int) ≤ P.room) → noOf P ⟨1, 0, 0, nought n⟩ = 8 := fun h4 h5 => by
    rw [hfit] at h5
    rw [hno, if_neg h4, if_pos (by omega)]
  have hgood : (n : Int) ≤ P.room → Lo = (P.lay (nought n)).bytes ∧ z10 = firstE P.s := fun h5 => by
    have h0 : e9 = 0 := by rw [ho.e]; exact hnoz.2 h5
    obtain ⟨g1, g2⟩ := ho.good h0
    refine ⟨?_, g2 rfl⟩
    rw [g1]
    unfold PD.step
    rw [if_pos (hnoz.2 h5)]
    rfl
  have htake : (n : Int) ≤ P.room → ∀ W, Calls Try.prog 17 #[av Lo, .int .i64 z10] W fun e w' => e = .returned (.tuple #[av P.bytes, .int .i64 0]) ∧ Fr (fun _ => False) W w' := fun h5 W => by
    obtain ⟨g1, g2⟩ := hgood h5
    rw [g1, g2]
    have hl := lay_ok kP (b := nought n) (by rw [nought_len]; exact (hfit.1 h5).1) (hfit.1 h5).2
    have ht := take_any (w := W) hl (i := firstE P.s) (lay_at _)
    rw [drop_lay kP] at ht
    exact ht
  have HNO := Lib.hid (And.intro ho.e (And.intro hnoz (And.intro hno3 hno8)))
  have HT := Lib.hid htake
  have HCR := Lib.hid CR
  have HKN : Hid (∀ W, Calls Try.prog 9 #[] W fun e w' => e = .returned (.bool true) ∧ Fr (fun _ => False) W w') := Lib.hid known_any
  have HLay : Hid (∀ W A, Rd W A n (nought n) → Calls Try.prog 16 #[av P.bytes, .slice A n n] W fun e w' => e = .returned (.tuple #[av Lo, .int .i64 z10, .int .i64 e9]) ∧ Fr (fun _ => False) W w') := Lib.hid fun W A hr => hC W A n n (nought_len n).symm hr
  obtain ⟨LP, hLP⟩ : ∃ L, L = P.bytes := ⟨_, rfl⟩
  obtain ⟨rm, hrm⟩ : ∃ r, r = P.room := ⟨_, rfl⟩
  rw [← hLP] at hlp HCP HLay HT HCR
  rw [← hrm] at HNO HT HCR
  have HEQ : Hid (∀ W, (Op.equalIn 10000 26 (.agg (cellsB LP).toArray) (.agg (cellsB LP).toArray)).run Try.prog W = .ok true W) := Lib.hid (fun W => page_is LP hlp W)
  have hup := Try.underlying26
  have hinP : (Try.prog.info? 26).map (·.size) = some (cellsB LP).length := by rw [infoPage, cellsB_len, hlp]
  have hinO : (Try.prog.info? 26).map (·.size) = some (cellsB Lo).length := by rw [infoPage, cellsB_len, hlo]
  have hk1 : ¬ ((kd : Int) < 0) := by omega
  have hk2 : ¬ ((kd : Int) > 4) := by omega
  have hk3 : ¬ (4 < (kd : Int)) := by omega
  have hn1 : ¬ ((n : Int) < 0) := by omega
  have hn2 : ¬ ((n : Int) > 700) := by omega
  have hn3 : ¬ (700 < (n : Int)) := by omega
  clear CP hC CR hfit hno hnoz hno3 hno8 hgood htake ho kP hP hLP hrm h hf hall
  go_enter Try.func4, Try.ntmps4
  go_wp2_with fail
  refine F1.mono ?_
  rintro e w1 ⟨rfl, f1⟩
  have HF1 := Lib.hid f1
  clear F1 f1
  go_wp2_with fail
  refine (HCP.out w1 HF1.out).mono ?_
  rintro e w2 ⟨rfl, f2⟩
  have HF2 := Lib.hid (HF1.out.trans f2 (fun _ _ q => q))
  clear f2 HF1 HCP
  go_upto_region 4 with (first | (refine wpList_zero rfl 26 rfl zeroPage ?_) | (refine wpList_store_mid rfl 26 _ _ rfl w2.heap.size 0 (cellsB LP).toArray rfl rfl (there_new w2 hlp) (by rw [infoPage]; simp [cellsB_len, hlp]) (all_oneCell_toArray (cellsB_one _)) ?_))
  obtain ⟨w3, hwx⟩ : ∃ X, X = (w2.alloc (.cells (cellsB (nought 512)).toArray 26)).setCells w2.heap.size 0 (cellsB LP) := ⟨_, rfl⟩
  have hbx := box_page hlp w3 hwx
  obtain ⟨g7, hg7⟩ : ∃ g, g = w2.heap.size := ⟨_, rfl⟩
  rw [← hg7] at hbx
  have HB7 := Lib.hid hbx.1
  have HF3 := Lib.hid (HF2.out.trans hbx.2 (fun _ _ q => q))
  rw [← hwx, ← hg7]
  clear hwx hbx HF2 hg7
  go_upto_region 6 with (fail)
  have HL2 : Hid (∀ W, Fr (fun _ => False) w3 W → ∀ A, Rd W A n (nought n) → _) := Lib.hid fun W _ A hr => HLay.out W A hr
  go_cut [9, 10, 11] (fun s9 s10 s11 wx => ∃ g : Nat, s9 = .pointer (some ⟨g, 0, none⟩) ∧ s10 = .int .i64 z10 ∧ s11 = .int .i64 e9 ∧ Hid (Blk wx g 26 (cellsB Lo).toArray) ∧ Hid (Fr (fun _ => False) w3 wx))
  case first =>
    refine wp_region_held_drew (S := fun w' => Fr (fun _ => False) w3 w') (by kernel_rfl) ((Fr.refl _ _).drew) (fun hS0 => ?_)
    refine anyH_take 0 43 (av LP) rfl rfl (by kernel_rfl) (by kernel_rfl) (by kernel_rfl) (fun _ _ _ h => h) (yieldsIf_load_mid (by rfl) _ _ rfl _ _ rfl _ _ (fun w' f => page_range (HB7.out.keep f (fun q => q)) hlp) hup rfl (by rw [infoPage, cellsB_len, hlp])) hS0 ?_
    (simp only [List.setIfInBounds_toArray, List.set_cons_zero, List.set_cons_succ])
    refine anyH_take 1 44 (.int .i64 (n : Nat)) rfl rfl (by kernel_rfl) (by kernel_rfl) (by kernel_rfl) (fun _ _ _ h => h) (.inl ⟨by rfl, fun w'' hS => by go_simp⟩) hS0 ?_
    (simp only [List.setIfInBounds_toArray, List.set_cons_zero, List.set_cons_succ])
    refine anyH_alt 2 8 (by kernel_rfl) ?_ ?_
    · obtain ⟨W1, hm1, f1, r1⟩ := make_page_bytes w3.drew n (n : Int) rfl (by omega)
      have g1 : Fr (fun _ => False) w3 W1 := hS0.trans f1 (fun _ _ q => q)
      refine wpOp_value 45 _ rfl rfl (by rfl) (run_make_op 34 _ rfl rfl hm1) ⟨g1, ?_⟩
      (simp only [List.setIfInBounds_toArray, List.set_cons_zero, List.set_cons_succ])
      refine anyH_alt 3 8 (by kernel_rfl) ?_ ?_
      · refine wpOp_call 46 rfl rfl (by rfl) (by go_simp) (((HL2.out _ g1 _ r1)).mono ?_)
        rintro e wl ⟨rfl, fl⟩
        refine ⟨_, rfl, (g1.trans fl (fun _ _ q => q)), ?_⟩
        (simp only [List.setIfInBounds_toArray, List.set_cons_zero, List.set_cons_succ])
        have hSl : Fr (fun _ => False) w3 wl := g1.trans fl (fun _ _ q => q)
        refine anyH_take 4 42 (.tuple #[av Lo, (.int .i64 z10), (.int .i64 e9)]) rfl rfl (by kernel_rfl) (by kernel_rfl) (by kernel_rfl) (fun _ _ _ h => h) (.inl ⟨by rfl, fun w'' hS => by go_simp⟩) hSl ?_
        (simp only [List.setIfInBounds_toArray, List.set_cons_zero, List.set_cons_succ])
        refine anyH_take 5 47 (av Lo) rfl rfl (by kernel_rfl) (by kernel_rfl) (by kernel_rfl) (fun _ _ _ h => h) (.inl ⟨by rfl, fun w'' hS => by go_simp⟩) hSl ?_
        (simp only [List.setIfInBounds_toArray, List.set_cons_zero, List.set_cons_succ])
        refine anyH_take 6 48 (.int .i64 z10) rfl rfl (by kernel_rfl) (by kernel_rfl) (by kernel_rfl) (fun _ _ _ h => h) (.inl ⟨by rfl, fun w'' hS => by go_simp⟩) hSl ?_
        (simp only [List.setIfInBounds_toArray, List.set_cons_zero, List.set_cons_succ])
        refine anyH_take 7 49 (.int .i64 e9) rfl rfl (by kernel_rfl) (by kernel_rfl) (by kernel_rfl) (fun _ _ _ h => h) (.inl ⟨by rfl, fun w'' hS => by go_simp⟩) hSl ?_
        (simp only [List.setIfInBounds_toArray, List.set_cons_zero, List.set_cons_succ])
        obtain ⟨W3, ha3, b3, f3⟩ := alloc_page wl
        have hSt : Fr (fun _ => False) w3 W3 := hSl.trans f3 (fun _ _ q => q)
        have hge : w3.heap.size ≤ wl.heap.size := hSl.size
        refine anyH_value 8 9 _ W3 (by kernel_rfl) rfl rfl (by rfl) (by rw [ha3]; exact run_zero_op 26 rfl zeroPage) hSt ?_
        (simp only [List.setIfInBounds_toArray, List.set_cons_zero, List.set_cons_succ])
        clear ha3
        refine anyH_skip 9 _ (by kernel_rfl) rfl rfl (by rfl) (run_store_mid 26 _ _ rfl wl.heap.size 0 (cellsB Lo).toArray rfl rfl (b3.there (by simp [cellsB_len, nought_len, hlo])) (by rw [infoPage]; simp [cellsB_len, hlo]) (all_oneCell_toArray (cellsB_one _))) (Fr.setCells (.inr hge) hSt) ?_
        have hSe := Fr.setCells (F := fun _ => False) (b := wl.heap.size) (vs := cellsB Lo) (o := 0) (.inr hge) hSt
        refine anyH_take 10 10 (.int .i64 z10) rfl rfl (by kernel_rfl) (by kernel_rfl) (by kernel_rfl) (fun _ _ _ h => h) (.inl ⟨by rfl, fun w'' hS => by go_simp⟩) hSe ?_
        (simp only [List.setIfInBounds_toArray, List.set_cons_zero, List.set_cons_succ])
        refine anyH_take 11 11 (.int .i64 e9) rfl rfl (by kernel_rfl) (by kernel_rfl) (by kernel_rfl) (fun _ _ _ h => h) (.inl ⟨by rfl, fun w'' hS => by go_simp⟩) hSe ?_
        (simp only [List.setIfInBounds_toArray, List.set_cons_zero, List.set_cons_succ])
        refine wpAnyH_done (by kernel_rfl) ?_ _
        have hbo := b3.over (o := 0) (m := Lo) (by have h1 := nought_len 512; have h2 := hlo; omega)
        rw [patch_all (by have h1 := nought_len 512; have h2 := hlo; omega)] at hbo
        go_wp2_with fail
        go_meet
        exact ⟨wl.heap.size, rfl, rfl, rfl, Lib.hid hbo, Lib.hid hSe⟩
      · obtain ⟨W3, ha3, b3, f3⟩ := alloc_page W1
        have g3 : Fr (fun _ => False) w3 W3 := g1.trans f3 (fun _ _ q => q)
        have hge : w3.heap.size ≤ W1.heap.size := g1.size
        refine wpOp_value 9 _ rfl rfl (by rfl) (by rw [ha3]; exact run_zero_op 26 rfl zeroPage) ⟨g3, ?_⟩
        (simp only [List.setIfInBounds_toArray, List.set_cons_zero, List.set_cons_succ])
        clear ha3
        have r3 := r1.keep f3 (fun _ _ q => q)
        refine anyH_enter 3 46 (by kernel_rfl) rfl rfl (by rfl) (by go_simp) ((HL2.out _ g3 _ r3).mono ?_)
        rintro e wl ⟨rfl, fl⟩
        have hSt : Fr (fun _ => False) w3 wl := g3.trans fl (fun _ _ q => q)
        refine ⟨_, rfl, hSt, ?_⟩
        (simp only [List.setIfInBounds_toArray, List.set_cons_zero, List.set_cons_succ])
        have b4 := b3.keep fl (fun q => q)
        refine anyH_take 4 42 (.tuple #[av Lo, (.int .i64 z10), (.int .i64 e9)]) rfl rfl (by kernel_rfl) (by kernel_rfl) (by kernel_rfl) (fun _ _ _ h => h) (.inl ⟨by rfl, fun w'' hS => by go_simp⟩) hSt ?_
        (simp only [List.setIfInBounds_toArray, List.set_cons_zero, List.set_cons_succ])
        refine anyH_take 5 47 (av Lo) rfl rfl (by kernel_rfl) (by kernel_rfl) (by kernel_rfl) (fun _ _ _ h => h) (.inl ⟨by rfl, fun w'' hS => by go_simp⟩) hSt ?_
        (simp only [List.setIfInBounds_toArray, List.set_cons_zero, List.set_cons_succ])
        refine anyH_take 6 48 (.int .i64 z10) rfl rfl (by kernel_rfl) (by kernel_rfl) (by kernel_rfl) (fun _ _ _ h => h) (.inl ⟨by rfl, fun w'' hS => by go_simp⟩) hSt ?_
        (simp only [List.setIfInBounds_toArray, List.set_cons_zero, List.set_cons_succ])
        refine anyH_take 7 49 (.int .i64 e9) rfl rfl (by kernel_rfl) (by kernel_rfl) (by kernel_rfl) (fun _ _ _ h => h) (.inl ⟨by rfl, fun w'' hS => by go_simp⟩) hSt ?_
        (simp only [List.setIfInBounds_toArray, List.set_cons_zero, List.set_cons_succ])
        refine anyH_skip 9 _ (by kernel_rfl) rfl rfl (by rfl) (run_store_mid 26 _ _ rfl W1.heap.size 0 (cellsB Lo).toArray rfl rfl (b4.there (by simp [cellsB_len, nought_len, hlo])) (by rw [infoPage]; simp [cellsB_len, hlo]) (all_oneCell_toArray (cellsB_one _))) (Fr.setCells (.inr hge) hSt) ?_
        have hSe := Fr.setCells (F := fun _ => False) (b := W1.heap.size) (vs := cellsB Lo) (o := 0) (.inr hge) hSt
        refine anyH_take 10 10 (.int .i64 z10) rfl rfl (by kernel_rfl) (by kernel_rfl) (by kernel_rfl) (fun _ _ _ h => h) (.inl ⟨by rfl, fun w'' hS => by go_simp⟩) hSe ?_
        (simp only [List.setIfInBounds_toArray, List.set_cons_zero, List.set_cons_succ])
        refine anyH_take 11 11 (.int .i64 e9) rfl rfl (by kernel_rfl) (by kernel_rfl) (by kernel_rfl) (fun _ _ _ h => h) (.inl ⟨by rfl, fun w'' hS => by go_simp⟩) hSe ?_
        (simp only [List.setIfInBounds_toArray, List.set_cons_zero, List.set_cons_succ])
        refine wpAnyH_done (by kernel_rfl) ?_ _
        have hbo := b4.over (o := 0) (m := Lo) (by have h1 := nought_len 512; have h2 := hlo; omega)
        rw [patch_all (by have h1 := nought_len 512; have h2 := hlo; omega)] at hbo
        go_wp2_with fail
        go_meet
        exact ⟨W1.heap.size, rfl, rfl, rfl, Lib.hid hbo, Lib.hid hSe⟩
    · obtain ⟨W3, ha3, b3, f3⟩ := alloc_page w3.drew
      have g3 : Fr (fun _ => False) w3 W3 := hS0.trans f3 (fun _ _ q => q)
      have hge : w3.heap.size ≤ w3.drew.heap.size := hS0.size
      refine wpOp_value 9 _ rfl rfl (by rfl) (by rw [ha3]; exact run_zero_op 26 rfl zeroPage) ⟨g3, ?_⟩
      (simp only [List.setIfInBounds_toArray, List.set_cons_zero, List.set_cons_succ])
      clear ha3
      obtain ⟨W1, hm1, f1, r1⟩ := make_page_bytes W3 n (n : Int) rfl (by omega)
      have g1 : Fr (fun _ => False) w3 W1 := g3.trans f1 (fun _ _ q => q)
      refine anyH_value 2 45 _ W1 (by kernel_rfl) rfl rfl (by rfl) (run_make_op 34 _ rfl rfl hm1) g1 ?_
      (simp only [List.setIfInBounds_toArray, List.set_cons_zero, List.set_cons_succ])
      refine anyH_enter 3 46 (by kernel_rfl) rfl rfl (by rfl) (by go_simp) ((HL2.out _ g1 _ r1).mono ?_)
      rintro e wl ⟨rfl, fl⟩
      have hSt : Fr (fun _ => False) w3 wl := g1.trans fl (fun _ _ q => q)
      refine ⟨_, rfl, hSt, ?_⟩
      (simp only [List.setIfInBounds_toArray, List.set_cons_zero, List.set_cons_succ])
      have b4 := (b3.keep f1 (fun q => q)).keep fl (fun q => q)
      refine anyH_take 4 42 (.tuple #[av Lo, (.int .i64 z10), (.int .i64 e9)]) rfl rfl (by kernel_rfl) (by kernel_rfl) (by kernel_rfl) (fun _ _ _ h => h) (.inl ⟨by rfl, fun w'' hS => by go_simp⟩) hSt ?_
      (simp only [List.setIfInBounds_toArray, List.set_cons_zero, List.set_cons_succ])
      refine anyH_take 5 47 (av Lo) rfl rfl (by kernel_rfl) (by kernel_rfl) (by kernel_rfl) (fun _ _ _ h => h) (.inl ⟨by rfl, fun w'' hS => by go_simp⟩) hSt ?_
      (simp only [List.setIfInBounds_toArray, List.set_cons_zero, List.set_cons_succ])
      refine anyH_take 6 48 (.int .i64 z10) rfl rfl (by kernel_rfl) (by kernel_rfl) (by kernel_rfl) (fun _ _ _ h => h) (.inl ⟨by rfl, fun w'' hS => by go_simp⟩) hSt ?_
      (simp only [List.setIfInBounds_toArray, List.set_cons_zero, List.set_cons_succ])
      refine anyH_take 7 49 (.int .i64 e9) rfl rfl (by kernel_rfl) (by kernel_rfl) (by kernel_rfl) (fun _ _ _ h => h) (.inl ⟨by rfl, fun w'' hS => by go_simp⟩) hSt ?_
      (simp only [List.setIfInBounds_toArray, List.set_cons_zero, List.set_cons_succ])
      refine anyH_skip 9 _ (by kernel_rfl) rfl rfl (by rfl) (run_store_mid 26 _ _ rfl w3.drew.heap.size 0 (cellsB Lo).toArray rfl rfl (b4.there (by simp [cellsB_len, nought_len, hlo])) (by rw [infoPage]; simp [cellsB_len, hlo]) (all_oneCell_toArray (cellsB_one _))) (Fr.setCells (.inr hge) hSt) ?_
      have hSe := Fr.setCells (F := fun _ => False) (b := w3.drew.heap.size) (vs := cellsB Lo) (o := 0) (.inr hge) hSt
      refine anyH_take 10 10 (.int .i64 z10) rfl rfl (by kernel_rfl) (by kernel_rfl) (by kernel_rfl) (fun _ _ _ h => h) (.inl ⟨by rfl, fun w'' hS => by go_simp⟩) hSe ?_
      (simp only [List.setIfInBounds_toArray, List.set_cons_zero, List.set_cons_succ])
      refine anyH_take 11 11 (.int .i64 e9) rfl rfl (by kernel_rfl) (by kernel_rfl) (by kernel_rfl) (fun _ _ _ h => h) (.inl ⟨by rfl, fun w'' hS => by go_simp⟩) hSe ?_
      (simp only [List.setIfInBounds_toArray, List.set_cons_zero, List.set_cons_succ])
      refine wpAnyH_done (by kernel_rfl) ?_ _
      have hbo := b4.over (o := 0) (m := Lo) (by have h1 := nought_len 512; have h2 := hlo; omega)
      rw [patch_all (by have h1 := nought_len 512; have h2 := hlo; omega)] at hbo
      go_wp2_with fail
      go_meet
      exact ⟨w3.drew.heap.size, rfl, rfl, rfl, Lib.hid hbo, Lib.hid hSe⟩
  case rest =>
    obtain ⟨g9, rfl, rfl, rfl, HB9, HF9⟩ := hcut
    have HB7c := Lib.hid (HB7.out.keep HF9.out (fun q => q))
    have HFc := Lib.hid (HF3.out.trans HF9.out (fun _ _ q => q))
    have q0 := Lib.hid (page_range HB7c.out hlp)
    clear HL2 HLay HB7 HF3 HF9
    have hnz : n ≤ 700 := hn
    by_cases h5 : (n : Int) ≤ rm
    · have he : e9 = 0 := by rw [HNO.out.1]; exact HNO.out.2.1.2 h5
      subst he
      have h5d : decide ((n : Int) ≤ rm) = true := decide_eq_true h5
      have CT := HT.out h5
      have HCT := Lib.hid CT
      clear HNO HT CT
      go_wp2_with (refine wpList_load_want (by rfl) 26 _ rfl g7 0 rfl (cellsB LP) _ q0.out hup rfl hinP ?_)
      refine (HCR.out _).mono ?_
      rintro e w4 ⟨rfl, f4⟩
      have q1 := Lib.hid (page_range (HB9.out.keep f4 (fun q => q)) hlo)
      have HB74 := Lib.hid (HB7c.out.keep f4 (fun q => q))
      have HF4 := Lib.hid (HFc.out.trans f4 (fun _ _ q => q))
      clear f4 q0 HB7c HFc HB9 HCR
      go_wp2_with (refine wpList_load_want (by rfl) 26 _ rfl g9 0 rfl (cellsB Lo) _ q1.out hup rfl hinO ?_)
      refine (HCT.out _).mono ?_
      rintro e w5 ⟨rfl, f5⟩
      have HB75 := Lib.hid (HB74.out.keep f5 (fun q => q))
      have HF5 := Lib.hid (HF4.out.trans f5 (fun _ _ q => q))
      clear f5 q1 HB74 HF4 HCT
      go_upto_region 12 with (first | (refine wpList_zero rfl 26 rfl zeroPage ?_) | (refine wpList_store_mid rfl 26 _ _ rfl w5.heap.size 0 (cellsB LP).toArray rfl rfl (there_new w5 hlp) (by rw [infoPage]; simp [cellsB_len, hlp]) (all_oneCell_toArray (cellsB_one _)) ?_))
      obtain ⟨w6, hwx⟩ : ∃ X, X = (w5.alloc (.cells (cellsB (nought 512)).toArray 26)).setCells w5.heap.size 0 (cellsB LP) := ⟨_, rfl⟩
      have hbx := box_page hlp w6 hwx
      have r12 := Lib.hid (page_range hbx.1 hlp)
      have r7 := Lib.hid (page_range (HB75.out.keep hbx.2 (fun q => q)) hlp)
      have HF6 := Lib.hid (HF5.out.trans hbx.2 (fun _ _ q => q))
      rw [← hwx]
      clear hwx hbx HF5 HB75
      have heq := HEQ.out w6
      go_wp2_with (first | (refine wpList_load_want (by rfl) 26 _ rfl w5.heap.size 0 rfl (cellsB LP) _ r12.out hup rfl hinP ?_) | (refine wpList_load_want (by rfl) 26 _ rfl g7 0 rfl (cellsB LP) _ r7.out hup rfl hinP ?_))
      refine (HKN.out _).mono ?_
      rintro e w7 ⟨rfl, f7⟩
      have HF7 := Lib.hid (HF6.out.trans f7 (fun _ _ q => q))
      clear f7
      go_wp2_with fail
      go_ret
      exact ⟨rfl, HF7.out⟩
    · have h5d : decide ((n : Int) ≤ rm) = false := decide_eq_false h5
      have h5e : ¬ ((n : Int) ≤ rm) := h5
      by_cases h4 : 400 < n
      · have he : e9 = 3 := by rw [HNO.out.1]; exact HNO.out.2.2.1 (by omega)
        subst he
        have h4d : decide ((400 : Int) < (n : Int)) = true := decide_eq_true (by omega)
        have h4e : (400 : Int) < (n : Int) := by omega
        clear HNO HT h4
        go_wp2_with (refine wpList_load_want (by rfl) 26 _ rfl g7 0 rfl (cellsB LP) _ q0.out hup rfl hinP ?_)
        refine (HCR.out _).mono ?_
        rintro e w4 ⟨rfl, f4⟩
        have HF4 := Lib.hid (HFc.out.trans f4 (fun _ _ q => q))
        clear f4 q0 HB7c HFc HB9 HCR
        go_wp2_with fail
        refine (HKN.out _).mono ?_
        rintro e w5 ⟨rfl, f5⟩
        have HF5 := Lib.hid (HF4.out.trans f5 (fun _ _ q => q))
        clear f5
        go_wp2_with fail
        go_ret
        exact ⟨rfl, HF5.out⟩
      · have he : e9 = 8 := by rw [HNO.out.1]; exact HNO.out.2.2.2 (by omega) (by omega)
        subst he
        have h4d : decide ((400 : Int) < (n : Int)) = false := decide_eq_false (by omega)
        have h4e : ¬ ((400 : Int) < (n : Int)) := by omega
        clear HNO HT h4
        go_wp2_with (refine wpList_load_want (by rfl) 26 _ rfl g7 0 rfl (cellsB LP) _ q0.out hup rfl hinP ?_)
        refine (HCR.out _).mono ?_
        rintro e w4 ⟨rfl, f4⟩
        have HF4 := Lib.hid (HFc.out.trans f4 (fun _ _ q => q))
        clear f4 q0 HB7c HFc HB9 HCR
        go_wp2_with fail
        refine (HKN.out _).mono ?_
        rintro e w5 ⟨rfl, f5⟩
        have HF5 := Lib.hid (HF4.out.trans f5 (fun _ _ q => q))
        clear f5
        go_wp2_with fail
        go_ret
        exact ⟨rfl, HF5.out⟩
set_option maxRecDepth 100000 in
theorem law_room (h : ListV w v xs) (kd n : Int) : Calls Try.prog 4 #[.int .i64 kd, v, .int .i64 n] w fun e w' => e = .returned (.bool true) ∧ Fr (fun _ => False) w w' := by
  by_cases hf : fewB xs 60 = true
  · by_cases hk : 0 ≤ kd
    · by_cases hk2 : kd ≤ 4
      · by_cases hn : 0 ≤ n
        · by_cases hn2 : n ≤ 700
          · obtain ⟨k, rfl⟩ : ∃ k : Nat, kd = k := ⟨kd.toNat, by omega⟩
            obtain ⟨m, rfl⟩ : ∃ m : Nat, n = m := ⟨n.toNat, by omega⟩
            exact room_in h hf (by omega) (by omega)
          · have q1 : ¬ (kd < 0) := by omega
            have q2 : ¬ (kd > 4) := by omega
            have q3 : ¬ (n < 0) := by omega
            have q4 : n > 700 := by omega
            have F1 := few_any h 60
            rw [hf] at F1
            clear h hf
            go_enter Try.func4, Try.ntmps4
            go_wp2_with fail
            refine F1.mono ?_
            rintro e w1 ⟨rfl, f1⟩
            clear F1
            go_wp2_with fail
            refine (known_any w1).mono ?_
            rintro e w2 ⟨rfl, f2⟩
            have HF := Lib.hid (f1.trans f2 (fun _ _ q => q))
            clear f1 f2
            go_wp2_with fail
            go_ret
            exact ⟨rfl, HF.out⟩
        · have q1 : ¬ (kd < 0) := by omega
          have q2 : ¬ (kd > 4) := by omega
          have q3 : n < 0 := by omega
          have F1 := few_any h 60
          rw [hf] at F1
          clear h hf
          go_enter Try.func4, Try.ntmps4
          go_wp2_with fail
          refine F1.mono ?_
          rintro e w1 ⟨rfl, f1⟩
          clear F1
          go_wp2_with fail
          refine (known_any w1).mono ?_
          rintro e w2 ⟨rfl, f2⟩
          have HF := Lib.hid (f1.trans f2 (fun _ _ q => q))
          clear f1 f2
          go_wp2_with fail
          go_ret
          exact ⟨rfl, HF.out⟩
      · have q1 : ¬ (kd < 0) := by omega
        have q2 : kd > 4 := by omega
        have F1 := few_any h 60
        rw [hf] at F1
        clear h hf
        go_enter Try.func4, Try.ntmps4
        go_wp2_with fail
        refine F1.mono ?_
        rintro e w1 ⟨rfl, f1⟩
        clear F1
        go_wp2_with fail
        refine (known_any w1).mono ?_
        rintro e w2 ⟨rfl, f2⟩
        have HF := Lib.hid (f1.trans f2 (fun _ _ q => q))
        clear f1 f2
        go_wp2_with fail
        go_ret
        exact ⟨rfl, HF.out⟩
    · have q1 : kd < 0 := by omega
      have F1 := few_any h 60
      rw [hf] at F1
      clear h hf
      go_enter Try.func4, Try.ntmps4
      go_wp2_with fail
      refine F1.mono ?_
      rintro e w1 ⟨rfl, f1⟩
      clear F1
      go_wp2_with fail
      refine (known_any w1).mono ?_
      rintro e w2 ⟨rfl, f2⟩
      have HF := Lib.hid (f1.trans f2 (fun _ _ q => q))
      clear f1 f2
      go_wp2_with fail
      go_ret
      exact ⟨rfl, HF.out⟩
  · have hf2 : fewB xs 60 = false := by simpa using hf
    have F1 := few_any h 60
    rw [hf2] at F1
    clear h hf
    go_enter Try.func4, Try.ntmps4
    go_wp2_with fail
    refine F1.mono ?_
    rintro e w1 ⟨rfl, f1⟩
    clear F1
    go_wp2_with fail
    refine (known_any w1).mono ?_
    rintro e w2 ⟨rfl, f2⟩
    have HF := Lib.hid (f1.trans f2 (fun _ _ q => q))
    clear f1 f2
    go_wp2_with fail
    go_ret
    exact ⟨rfl, HF.out⟩
end
end Go.Proofs.Ytijdbngjnhhheaa
