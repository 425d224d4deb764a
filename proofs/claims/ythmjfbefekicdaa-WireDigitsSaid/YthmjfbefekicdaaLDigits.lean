/- The law WireDigits, walked. -/
import Derived.Test.YthmjfbefekicdaaDig
import Derived.Test.YthmjfbefekicdaaOfd
import Derived.Test.YthmjfbefekicdaaKnown
namespace Go.Proofs.Ythmjfbefekicdaa
open Go.RowKit

theorem hexd_is (m : Nat) (h : m < 16) : isD 16 (hexd m) = true ∧ dv (hexd m) = UInt8.ofNat m := by
  have h' : m = 0 ∨ m = 1 ∨ m = 2 ∨ m = 3 ∨ m = 4 ∨ m = 5 ∨ m = 6 ∨ m = 7 ∨ m = 8 ∨ m = 9 ∨ m = 10 ∨ m = 11 ∨ m = 12 ∨ m = 13 ∨ m = 14 ∨ m = 15 := by omega
  rcases h' with rfl | rfl | rfl | rfl | rfl | rfl | rfl | rfl | rfl | rfl | rfl | rfl | rfl | rfl | rfl | rfl <;> exact ⟨rfl, rfl⟩
theorem wl_all : ∀ l : List UInt8, l.all (isD 16) = true → wl 16 l = l.map dv
  | [], _ => rfl
  | c :: l, h => by
    simp only [List.all_cons, Bool.and_eq_true] at h
    have := wl_all l h.2
    simp only [wl, List.takeWhile_cons, h.1, if_true, List.map_cons] at this ⊢
    rw [this]
theorem hexs_all : ∀ b : List UInt8, (hexs b).all (isD 16) = true
  | [] => rfl
  | c :: b => by
    have hc := c.toNat_lt
    simp only [hexs, List.all_cons, hexs_all b, (hexd_is (c.toNat / 16) (by omega)).1, (hexd_is (c.toNat % 16) (by omega)).1, Bool.and_true]
theorem pair_hexs : ∀ b : List UInt8, pair (wl 16 (hexs b)) = b := by
  intro b
  rw [wl_all _ (hexs_all b)]
  induction b with
  | nil => rfl
  | cons c b ih =>
    have hc := c.toNat_lt
    simp only [hexs, List.map_cons, pair, ih, (hexd_is (c.toNat / 16) (by omega)).2, (hexd_is (c.toNat % 16) (by omega)).2]
    congr 1
    apply UInt8.toNat_inj.mp
    rw [UInt8.toNat_ofNat', UInt8.toNat_ofNat', UInt8.toNat_ofNat']
    omega
theorem wl_full : ∀ l : List UInt8, (wl 16 l).length = l.length → l.all (isD 16) = true
  | [], _ => rfl
  | c :: l, h => by
    cases hc : isD 16 c with
    | false => simp [wl, List.takeWhile_cons, hc] at h
    | true =>
      have := wl_full l (by simpa [wl, List.takeWhile_cons, hc] using h)
      simp [hc, this]
theorem hexd_dv (c : UInt8) (h : isD 16 c = true) : hexd (dv c).toNat = c := by
  have hc := c.toNat_lt
  have h1 := dv_lt c h
  apply UInt8.toNat_inj.mp
  rw [hexd_toNat _ h1]
  unfold isD isDig at h
  unfold dv
  simp at h
  split <;> (rw [UInt8.toNat_ofNat']; split <;> omega)
theorem hexs_pair : ∀ s : List UInt8, s.all (isD 16) = true → s.length % 2 = 0 → hexs (pair (s.map dv)) = s
  | [], _, _ => rfl
  | [x], _, h => by simp at h
  | x :: y :: s, h, h2 => by
    simp only [List.all_cons, Bool.and_eq_true] at h
    have ih := hexs_pair s h.2.2 (by simp at h2; omega)
    have hx := dv_lt x h.1
    have hy := dv_lt y h.2.1
    have e : (UInt8.ofNat ((dv x).toNat * 16 + (dv y).toNat)).toNat = (dv x).toNat * 16 + (dv y).toNat := by rw [UInt8.toNat_ofNat']; omega
    simp only [List.map_cons, pair, hexs, ih, e]
    rw [show ((dv x).toNat * 16 + (dv y).toNat) / 16 = (dv x).toNat by omega, show ((dv x).toNat * 16 + (dv y).toNat) % 16 = (dv y).toNat by omega, hexd_dv x h.1, hexd_dv y h.2.1]

set_option maxHeartbeats 4000000 in
set_option maxRecDepth 100000 in
theorem digits_law {w : World} {A : Option Addr} {cb : Nat} {b : List UInt8} (hr : Rd w A b.length b) (hcb : b.length ≤ maxLen) (s : ByteArray) (hs : s.size ≤ maxLen) :
    Calls Try.prog 6 #[.slice A b.length cb, .string s] w fun e w' => e = .returned (.bool true) ∧ Below w.heap.size w w' := by
  unfold maxLen at hcb hs
  by_cases hb5 : 3000 < b.length ∨ 3000 < s.size
  · clear hr
    by_cases hb6 : 3000 < b.length
    · clear hb5
      go_enter Try.func6, Try.ntmps6
      go_wp2_with fail
      refine (known_any _).mono ?_
      rintro e w1 ⟨rfl, hf⟩
      go_wp2
      go_ret
      exact ⟨rfl, hf.below (Nat.le_refl _) (fun _ _ => id)⟩
    · have hb7 : 3000 < s.size := by omega
      clear hb5
      go_enter Try.func6, Try.ntmps6
      go_wp2_with fail
      refine (known_any _).mono ?_
      rintro e w1 ⟨rfl, hf⟩
      go_wp2
      go_ret
      exact ⟨rfl, hf.below (Nat.le_refl _) (fun _ _ => id)⟩
  have hb3 : b.length ≤ 3000 := by omega
  have hs3 : s.size ≤ 3000 := by omega
  clear hb5
  have HR := Lib.hid hr
  have HD := Lib.hid (dig_any (c := cb) hr hb3)
  obtain ⟨T, hT⟩ : ∃ T : ByteArray, T = ⟨(hexs b).toArray⟩ := ⟨_, rfl⟩
  have hTl : T.data.toList = hexs b := by rw [hT]
  have hTs : T.size = 2 * b.length := by rw [← hexs_len, ← hTl, Array.length_toList]; rfl
  have HO := Lib.hid (fun u => ofd_ok T (by omega) (by rw [hTl, wl_all _ (hexs_all b), List.length_map]) (by rw [hTl, wl_all _ (hexs_all b), List.length_map, hexs_len]; omega) u)
  rw [hTl, pair_hexs b] at HO
  have HRD := Lib.hid (fun u (hu : Rd u A b.length b) => rdig_any (c := cb) hu hb3)
  rw [← hT] at HD HRD
  clear hr hT hTl hTs
  go_enter Try.func6, Try.ntmps6
  go_wp2_with fail
  (with_reducible refine HD.out.mono ?_)
  rintro e w1 ⟨rfl, f1⟩
  have H1 := Lib.hid f1
  clear f1
  go_wp2_with fail
  (with_reducible refine (HO.out _).mono ?_)
  rintro e w2 ⟨vx, rfl, hm2⟩
  obtain ⟨Ax, cx, rfl, _, _, _, hrx⟩ := own_rd hm2.1
  have H2 := Lib.hid (And.intro (H1.out.trans hm2.2 (fun _ _ => id)) hrx)
  clear hm2 hrx
  go_wp2_with fail
  (with_reducible refine (HRD.out _ (HR.out.keep H2.out.1 (fun _ _ => id))).mono ?_)
  rintro e w3 ⟨rfl, f3⟩
  have H3 := Lib.hid (H2.out.1.trans f3 (fun _ _ => id))
  have hcv5 := conv_string (P := Try.prog) 26 9 5 (c := cx) (H2.out.2.keep f3 (fun _ _ => id)) Try.underlying26 Try.underlying5 Try.underlying9
  have hcv6 := conv_string (P := Try.prog) 26 9 5 (c := cb) (HR.out.keep H3.out (fun _ _ => id)) Try.underlying26 Try.underlying5 Try.underlying9
  clear f3
  by_cases hok : (wl 16 s.data.toList).length = s.data.toList.length ∧ s.data.toList.length % 2 = 0
  · have hall := wl_full _ hok.1
    have HY := Lib.hid (fun u => ofd_ok s (by omega) hok.1 (by rw [hok.1]; exact hok.2) u)
    rw [wl_all _ hall] at HY
    have hyl : (pair (s.data.toList.map dv)).length ≤ 3000 := by rw [pair_len, List.length_map, Array.length_toList]; have : s.data.size = s.size := rfl; omega
    have hback := hexs_pair _ hall hok.2
    have HB := Lib.hid (And.intro hyl hback)
    clear hok hall hyl hback
    generalize pair (s.data.toList.map dv) = Y at *
    go_wp2_with fail
    (with_reducible refine (HY.out _).mono ?_)
    rintro e w4 ⟨vy, rfl, hm4⟩
    obtain ⟨Ay, cy, rfl, _, _, _, hry⟩ := own_rd hm4.1
    have H4 := Lib.hid (And.intro (H3.out.trans hm4.2 (fun _ _ => id)) hry)
    clear hm4 hry hcv5 hcv6
    go_wp2_with fail
    refine (rdig_any H4.out.2 HB.out.1).mono ?_
    rintro e w5 ⟨rfl, f5⟩
    have hse : (⟨(hexs Y).toArray⟩ : ByteArray) = s := by rw [HB.out.2]
    rw [hse]
    have H5 := Lib.hid (H4.out.1.trans f5 (fun _ _ => id))
    clear f5 hse
    go_wp2_with fail
    refine (known_any _).mono ?_
    rintro e w6 ⟨rfl, f6⟩
    have H6 := Lib.hid f6
    clear f6
    go_wp2
    go_ret
    exact ⟨rfl, (H5.out.trans H6.out (fun _ _ => id)).below (Nat.le_refl _) (fun _ _ => id)⟩
  · have HY := Lib.hid (fun u => ofd_bad s (by omega) (fun h => by omega) u)
    have HNK := Lib.hid hok
    clear hok
    go_wp2_with fail
    (with_reducible refine (HY.out _).mono ?_)
    rintro e w4 ⟨rfl, f4⟩
    have H4 := Lib.hid (H3.out.trans f4 (fun _ _ => id))
    clear f4 hcv5 hcv6
    go_wp2_with fail
    go_loopw [10, 11] (fun p i wr => ∃ (k : Nat), i = .int .i64 k ∧ p = .bool (decide (s.size % 2 = 0) && (s.data.toList.take k).all (isD 16)) ∧ k ≤ s.size ∧ Hid (Fr (fun _ => False) w wr)) (fun _ i _ => s.size - (intOf i).toNat)
    case atStart => exact ⟨0, rfl, congrArg Value.bool (by rw [Bool.eq_iff_iff]; simp; omega), Nat.zero_le _, H4⟩
    case round =>
      obtain ⟨k, rfl, rfl, hk, HF⟩ := hrel
      by_cases hlt : k < s.size
      · have hnx : (decide (s.size % 2 = 0) && (s.data.toList.take (k + 1)).all (isD 16)) = ((decide (s.size % 2 = 0) && (s.data.toList.take k).all (isD 16)) && isD 16 s[k]) := by
          rw [take_snoc s k hlt, List.all_append]
          simp [Bool.and_assoc]
        have HNX := Lib.hid hnx
        clear hnx
        generalize (decide (s.size % 2 = 0) && (s.data.toList.take k).all (isD 16)) = o at *
        have hx' := s[k].toNat_lt
        cases o
        · go_wp2_with fail
          exact ⟨⟨k + 1, by go_num, by rw [HNX.out]; first | rfl | (rw [(decide_eq_false_iff_not (p := ((s[k].toNat : Int) ≤ 57))).2 (by omega)]; first | rfl | (rw [(decide_eq_true_eq (p := ((s[k].toNat : Int) ≤ 102))).mpr (by omega)]; rfl) | (rw [(decide_eq_false_iff_not (p := ((s[k].toNat : Int) ≤ 102))).2 (by omega)]; rfl)), by omega, HF⟩, by simp [intOf]; omega⟩
        · have hcl : s[k].toNat < 48 ∨ (48 ≤ s[k].toNat ∧ s[k].toNat ≤ 57) ∨ (57 < s[k].toNat ∧ s[k].toNat < 97) ∨ (97 ≤ s[k].toNat ∧ s[k].toNat ≤ 102) ∨ 102 < s[k].toNat := by omega
          rcases hcl with hcl | hcl | hcl | hcl | hcl
          · have hisd : isD 16 s[k] = false := by unfold isD isDig; simp; omega
            rw [hisd] at HNX
            clear hisd
            go_wp2_with fail
            exact ⟨⟨k + 1, by go_num, by rw [HNX.out]; first | rfl | (rw [(decide_eq_false_iff_not (p := ((s[k].toNat : Int) ≤ 57))).2 (by omega)]; first | rfl | (rw [(decide_eq_true_eq (p := ((s[k].toNat : Int) ≤ 102))).mpr (by omega)]; rfl) | (rw [(decide_eq_false_iff_not (p := ((s[k].toNat : Int) ≤ 102))).2 (by omega)]; rfl)), by omega, HF⟩, by simp [intOf]; omega⟩
          · have hisd : isD 16 s[k] = true := by unfold isD isDig; simp; omega
            rw [hisd] at HNX
            clear hisd
            obtain ⟨hcl, hcl'⟩ := hcl
            go_wp2_with fail
            exact ⟨⟨k + 1, by go_num, by rw [HNX.out]; first | rfl | (rw [(decide_eq_false_iff_not (p := ((s[k].toNat : Int) ≤ 57))).2 (by omega)]; first | rfl | (rw [(decide_eq_true_eq (p := ((s[k].toNat : Int) ≤ 102))).mpr (by omega)]; rfl) | (rw [(decide_eq_false_iff_not (p := ((s[k].toNat : Int) ≤ 102))).2 (by omega)]; rfl)), by omega, HF⟩, by simp [intOf]; omega⟩
          · have hisd : isD 16 s[k] = false := by unfold isD isDig; simp; omega
            rw [hisd] at HNX
            clear hisd
            obtain ⟨hcl, hcl'⟩ := hcl
            go_wp2_with fail
            exact ⟨⟨k + 1, by go_num, by rw [HNX.out]; first | rfl | (rw [(decide_eq_false_iff_not (p := ((s[k].toNat : Int) ≤ 57))).2 (by omega)]; first | rfl | (rw [(decide_eq_true_eq (p := ((s[k].toNat : Int) ≤ 102))).mpr (by omega)]; rfl) | (rw [(decide_eq_false_iff_not (p := ((s[k].toNat : Int) ≤ 102))).2 (by omega)]; rfl)), by omega, HF⟩, by simp [intOf]; omega⟩
          · have hisd : isD 16 s[k] = true := by unfold isD isDig; simp; omega
            rw [hisd] at HNX
            clear hisd
            obtain ⟨hcl, hcl'⟩ := hcl
            go_wp2_with fail
            exact ⟨⟨k + 1, by go_num, by rw [HNX.out]; first | rfl | (rw [(decide_eq_false_iff_not (p := ((s[k].toNat : Int) ≤ 57))).2 (by omega)]; first | rfl | (rw [(decide_eq_true_eq (p := ((s[k].toNat : Int) ≤ 102))).mpr (by omega)]; rfl) | (rw [(decide_eq_false_iff_not (p := ((s[k].toNat : Int) ≤ 102))).2 (by omega)]; rfl)), by omega, HF⟩, by simp [intOf]; omega⟩
          · have hisd : isD 16 s[k] = false := by unfold isD isDig; simp; omega
            rw [hisd] at HNX
            clear hisd
            go_wp2_with fail
            exact ⟨⟨k + 1, by go_num, by rw [HNX.out]; first | rfl | (rw [(decide_eq_false_iff_not (p := ((s[k].toNat : Int) ≤ 57))).2 (by omega)]; first | rfl | (rw [(decide_eq_true_eq (p := ((s[k].toNat : Int) ≤ 102))).mpr (by omega)]; rfl) | (rw [(decide_eq_false_iff_not (p := ((s[k].toNat : Int) ≤ 102))).2 (by omega)]; rfl)), by omega, HF⟩, by simp [intOf]; omega⟩
      · obtain rfl : k = s.size := by omega
        have hfin : (decide (s.size % 2 = 0) && (s.data.toList.take s.size).all (isD 16)) = false := by
          rw [take_all s _ hlt]
          cases hq : (decide (s.size % 2 = 0) && s.data.toList.all (isD 16)) with
          | false => rfl
          | true =>
            exfalso
            rw [Bool.and_eq_true, decide_eq_true_eq] at hq
            apply HNK.out
            rw [wl_all _ hq.2, List.length_map, Array.length_toList]
            exact ⟨rfl, hq.1⟩
        rw [hfin]
        clear hfin hlt
        go_wp2_with fail
        refine (known_any _).mono ?_
        rintro e w6 ⟨rfl, f6⟩
        have H6 := Lib.hid f6
        clear f6
        go_wp2
        go_ret
        exact ⟨rfl, (HF.out.trans H6.out (fun _ _ => id)).below (Nat.le_refl _) (fun _ _ => id)⟩
end Go.Proofs.Ythmjfbefekicdaa
