/- The law NumberTells, of what number's calls answer. -/
import Derived.Test.YtchofmncinbmcaaNap
namespace Go.Proofs.Ytchofmncinbmcaa
open Go.RowKit

theorem rd_set {w : World} {g n : Nat} {l : List UInt8} (h : Rd w (some ⟨g, 0, none⟩) n l) {k : Nat} (hk : k < n) (c : UInt8) : Rd (w.setCell ⟨g, k, none⟩ (.int .u8 (c.toNat : Int))) (some ⟨g, 0, none⟩) n (l.set k c) := by
  obtain ⟨h1, h2⟩ := h
  refine ⟨by rw [List.length_set, h1], fun h0 => ?_⟩
  obtain ⟨ad, e, hat⟩ := h2 h0
  injection e with e
  subst e
  have hadd : ∀ j, (⟨g, 0, none⟩ : Addr).add j = ⟨g, j, none⟩ := fun j => by unfold Addr.add; split <;> simp_all
  refine ⟨_, rfl, fun j x hj => ?_⟩
  rw [hadd]
  rw [List.getElem?_set] at hj
  by_cases e : k = j
  · subst e
    have hold := hat k l[k] (List.getElem?_eq_getElem (by omega))
    rw [hadd] at hold
    rw [World.cell?_setCell_same (h := hold)]
    rw [if_pos rfl, if_pos (by omega)] at hj
    injection hj with hj
    rw [hj]
  · rw [if_neg e] at hj
    have hold := hat j x hj
    rw [hadd] at hold
    rw [World.cell?_setCell_other (h := fun q => e (by injection q))]
    exact hold
/-- A text as new bytes, that may be written. -/
theorem conv_bytes_w (w : World) (s : ByteArray) : ∃ c w', (convert 9 40 (.string s)).run Try.prog w = .ok (.slice (some ⟨w.heap.size, 0, none⟩) s.size c) w' ∧ Rd w' (some ⟨w.heap.size, 0, none⟩) s.size s.data.toList ∧ Fr (fun _ => False) w w' ∧ ∀ j, j < s.size → w'.frozen? ⟨w.heap.size, j, none⟩ = false := by
  obtain ⟨c, w', h1, h2, h3, _⟩ := conv_bytes (P := Try.prog) w 9 40 5 s Try.underlying9 Try.underlying40 Try.underlying5
  refine ⟨c, w', h1, h2, h3, fun j hj => ?_⟩
  have h4 := run_bytes_of_string (P := Try.prog) w 9 40 5 s Try.underlying9 Try.underlying40 Try.underlying5
  rw [h1] at h4
  injection h4 with _ h4
  rw [h4]
  have := World.frozen?_alloc_mark w.drew (bytesRow s (grownCap w s.size 0 5)) 5 (bytesRow s (grownCap w s.size 0 5)).size ((bytesRow s (grownCap w s.size 0 5)).size + 1) j
  have hc := World.block_lt_of_cell? w'
  refine (show (w.drew.alloc _).frozen? ⟨w.drew.heap.size, j, none⟩ = false from this.trans ?_)
  rw [Bool.and_eq_false_iff]
  refine .inl (decide_eq_false ?_)
  have hle : s.size ≤ (bytesRow s (grownCap w s.size 0 5)).size := by
    apply Decidable.byContradiction
    intro q
    have := bytesRow_at s (grownCap w s.size 0 5) (bytesRow s (grownCap w s.size 0 5)).size (by have : s.data.size = s.size := rfl; omega)
    rw [Array.getElem?_eq_none (Nat.le_refl _)] at this
    cases this
  omega
theorem w64s {n : Int} (h0 : -1000 ≤ n) (h1 : n ≤ 1000) : wrap64 n = n := by unfold wrap64; omega

theorem w64d {a t : Nat} (h1 : 48 ≤ t) (h2 : t ≤ 57) (h3 : 48 ≤ a) (h4 : a ≤ 57) : wrap64 ((a : Int) - (t : Int)) = (a : Int) - (t : Int) ∧ wrap64 (wrap64 (a : Int) - (t : Int)) = (a : Int) - (t : Int) := by
  have e : wrap64 (a : Int) = a := w64s (by omega) (by omega)
  rw [e]
  exact ⟨w64s (by omega) (by omega), w64s (by omega) (by omega)⟩

theorem nbad (P : NumP) (c s i : Int) (t : UInt8) (w : World) (h : ¬ (mayCS c s = true ∧ 0 ≤ i ∧ i ≤ 12 ∧ 48 ≤ t.toNat ∧ t.toNat ≤ 57)) : Calls Try.prog 5 #[.int .i64 c, .int .i64 s, .int .i64 i, .int .u8 (t.toNat : Int)] w fun e w' => e = .returned (.bool true) ∧ Fr (fun _ => False) w w' := by
  have HM := Lib.hid (rmake_any c s w)
  generalize makeN c s = x at HM
  generalize hm : mayCS c s = m at HM h
  clear hm
  cases m with
  | false =>
    clear h
    go_enter Try.func5, Try.ntmps5
    go_wp2_with fail
    refine HM.out.mono ?_
    rintro e w1 ⟨rfl, f1⟩
    have H9 := Lib.hid f1
    clear f1 HM
    go_wp2_with fail
    refine (nknown P _).mono ?_
    rintro e wk ⟨rfl, fk⟩
    have HK := Lib.hid fk
    clear fk
    go_wp2_with fail
    go_ret
    exact ⟨rfl, H9.out.trans HK.out (fun _ _ q => q)⟩
  | true =>
    by_cases h1 : i < 0
    · clear h
      go_enter Try.func5, Try.ntmps5
      go_wp2_with fail
      refine HM.out.mono ?_
      rintro e w1 ⟨rfl, f1⟩
      have H9 := Lib.hid f1
      clear f1 HM
      go_wp2_with fail
      refine (nknown P _).mono ?_
      rintro e wk ⟨rfl, fk⟩
      have HK := Lib.hid fk
      clear fk
      go_wp2_with fail
      go_ret
      exact ⟨rfl, H9.out.trans HK.out (fun _ _ q => q)⟩
    by_cases h2 : 12 < i
    · clear h
      go_enter Try.func5, Try.ntmps5
      go_wp2_with fail
      refine HM.out.mono ?_
      rintro e w1 ⟨rfl, f1⟩
      have H9 := Lib.hid f1
      clear f1 HM
      go_wp2_with fail
      refine (nknown P _).mono ?_
      rintro e wk ⟨rfl, fk⟩
      have HK := Lib.hid fk
      clear fk
      go_wp2_with fail
      go_ret
      exact ⟨rfl, H9.out.trans HK.out (fun _ _ q => q)⟩
    by_cases h3 : (t.toNat : Int) < 48
    · have d3 : decide ((t.toNat : Int) < 48) = true := decide_eq_true h3
      clear h h3
      go_enter Try.func5, Try.ntmps5
      go_wp2_with fail
      refine HM.out.mono ?_
      rintro e w1 ⟨rfl, f1⟩
      have H9 := Lib.hid f1
      clear f1 HM
      go_wp2_with fail
      refine (nknown P _).mono ?_
      rintro e wk ⟨rfl, fk⟩
      have HK := Lib.hid fk
      clear fk
      go_wp2_with fail
      go_ret
      exact ⟨rfl, H9.out.trans HK.out (fun _ _ q => q)⟩
    have d3 : decide ((t.toNat : Int) < 48) = false := decide_eq_false h3
    have h4 : (57 : Int) < (t.toNat : Int) := Decidable.byContradiction fun q => h ⟨rfl, by omega, by omega, by omega, by omega⟩
    have d4 : decide ((57 : Int) < (t.toNat : Int)) = true := decide_eq_true h4
    clear h h3 h4
    go_enter Try.func5, Try.ntmps5
    go_wp2_with fail
    refine HM.out.mono ?_
    rintro e w1 ⟨rfl, f1⟩
    have H9 := Lib.hid f1
    clear f1 HM
    go_wp2_with fail
    refine (nknown P _).mono ?_
    rintro e wk ⟨rfl, fk⟩
    have HK := Lib.hid fk
    clear fk
    go_wp2_with fail
    go_ret
    exact ⟨rfl, H9.out.trans HK.out (fun _ _ q => q)⟩
set_option maxRecDepth 100000 in
set_option maxHeartbeats 4000000 in
theorem ntells (P : NumP) (c s i : Int) (t : UInt8) (w : World) : Calls Try.prog 5 #[.int .i64 c, .int .i64 s, .int .i64 i, .int .u8 (t.toNat : Int)] w fun e w' => e = .returned (.bool true) ∧ Fr (fun _ => False) w w' := by
  by_cases hall : mayCS c s = true ∧ 0 ≤ i ∧ i ≤ 12 ∧ 48 ≤ t.toNat ∧ t.toNat ≤ 57
  · obtain ⟨hm, hi0, hi12, ht48, ht57⟩ := hall
    have h2 := rmake_any c s w
    unfold makeN at h2
    simp only [hm, if_true] at h2
    unfold mayCS at hm
    rw [decide_eq_true_eq] at hm
    obtain ⟨c', rfl⟩ : ∃ c' : Nat, c = c' := ⟨c.toNat, by omega⟩
    obtain ⟨s', rfl⟩ : ∃ s' : Nat, s = s' := ⟨s.toNat, by omega⟩
    obtain ⟨k, rfl⟩ : ∃ k : Nat, i = k := ⟨i.toNat, by omega⟩
    simp only [Int.toNat_natCast] at h2
    obtain ⟨x, hx⟩ : ∃ x, x = mkN c' s' := ⟨_, rfl⟩
    have hlt := mkN_lt (c := c') (s := s') (by omega) (by omega) (by omega)
    have hpt := mkN_parts (c := c') (s := s') (by omega) (by omega) (by omega)
    have htx := textL_txt (c := c') (s := s') (by omega) (by omega) (by omega)
    have hfc := (textL_facts (c := c') (s := s') (by omega) (by omega) (by omega)).1
    rw [← hx] at h2 hlt hpt htx
    obtain ⟨y, hy⟩ : ∃ y, y = x / 10 := ⟨_, rfl⟩
    have hy12 : y ≤ 999999999999 := by omega
    have H2 := Lib.hid h2
    have HR := Lib.hid (fun W => rtext_any (c := c') (s := s') (by omega) (by omega) W)
    have hk : k ≤ 12 := by omega
    have HF := Lib.hid (And.intro hpt.1 (And.intro htx (And.intro hfc (And.intro hy (And.intro ht48 ht57)))))
    have HCH := Lib.hid (fun j W (hj : j < 10) => P.check (y * 10 + j) W (by omega))
    have d1 : decide ((t.toNat : Int) < 48) = false := by rw [decide_eq_false_iff_not]; omega
    have d2 : decide ((57 : Int) < (t.toNat : Int)) = false := by rw [decide_eq_false_iff_not]; omega
    have hw1 : IntKind.u64.wrap ((x : Int) / 10) = ((y : Nat) : Int) := by rw [wrapU]; omega
    have hq : (x : Int) / 10 = (y : Int) := by omega
    clear hm h2 hlt hpt htx hfc hx hi0 hi12 ht48 ht57 hy
    go_enter Try.func5, Try.ntmps5
    go_wp2_with fail
    refine H2.out.mono ?_
    rintro e w1 ⟨rfl, f1⟩
    have H1 := Lib.hid f1
    clear f1 H2
    go_wp2_with fail
    go_loopw [11, 12] (fun r j wr => ∃ m : Nat, j = .int .u64 m ∧ r = .int .i64 (if x % 10 < m then 1 else 0) ∧ m ≤ 10 ∧ Hid (Fr (fun _ => False) w wr)) (fun _ j _ => 10 - (intOf j).toNat)
    case atStart => exact ⟨0, rfl, rfl, by omega, H1⟩
    case round =>
      obtain ⟨m, rfl, rfl, hm10, HW⟩ := hrel
      by_cases hlt : m < 10
      · have HC := Lib.hid (HCH.out m wr hlt)
        obtain ⟨ce, hce⟩ : ∃ ce, ce = chkE (y * 10 + m) := ⟨_, rfl⟩
        rw [← hce] at HC
        have hone : ce = 0 ↔ m = x % 10 := by rw [hce, HF.out.2.2.2.1]; exact one_right HF.out.1 hlt
        obtain ⟨z, hz⟩ : ∃ z, z = y * 10 + m := ⟨_, rfl⟩
        rw [← hz] at HC
        have hw2 : IntKind.u64.wrap ((y : Int) * 10) = ((y * 10 : Nat) : Int) := by rw [wrapU]; omega
        have hw3 : IntKind.u64.wrap (((y * 10 : Nat) : Int) + (m : Int)) = ((z : Nat) : Int) := by rw [wrapU]; omega
        have hw4 : IntKind.u64.wrap ((y : Int) * 10 + (m : Int)) = ((z : Nat) : Int) := by rw [wrapU]; omega
        have hq2 : (y : Int) * 10 + (m : Int) = (z : Int) := by omega
        have hmi : (m : Int) < 10 := by omega
        obtain ⟨rr, hrr⟩ : ∃ rr : Int, rr = if x % 10 < m then 1 else 0 := ⟨_, rfl⟩
        rw [← hrr]
        by_cases h0 : ce = 0
        · have hm' := hone.1 h0
          subst h0
          have hr0 : rr = 0 := by rw [hrr, if_neg (by omega)]
          subst hr0
          have HN : Hid ((1 : Int) = if x % 10 < m + 1 then 1 else 0) := Lib.hid (by rw [if_pos (by omega)])
          clear hrr hone hce hz hm'
          go_wp2_with fail
          refine HC.out.mono ?_
          rintro e w2 ⟨rfl, f2⟩
          have H3 := Lib.hid (HW.out.trans f2 (fun _ _ q => q))
          clear f2 HC
          go_wp2_with fail
          refine ⟨⟨m + 1, by norm_cast, by rw [← HN.out], by omega, H3⟩, ?_⟩
          simp only [intOf]
          omega
        · have hb : ((ce : Int) == 0) = false := by rw [beq_eq_false_iff_ne]; omega
          have HN : Hid (rr = if x % 10 < m + 1 then 1 else 0) := Lib.hid (by
            rw [hrr]
            have : m ≠ x % 10 := fun q => h0 (hone.2 q)
            by_cases q : x % 10 < m
            · rw [if_pos q, if_pos (by omega)]
            · rw [if_neg q, if_neg (by omega)])
          clear hrr hone hce hz h0
          go_wp2_with fail
          refine HC.out.mono ?_
          rintro e w2 ⟨rfl, f2⟩
          have H3 := Lib.hid (HW.out.trans f2 (fun _ _ q => q))
          clear f2 HC
          go_wp2_with fail
          refine ⟨⟨m + 1, by norm_cast, by rw [← HN.out], by omega, H3⟩, ?_⟩
          simp only [intOf]
          omega
      · obtain rfl : m = 10 := by omega
        have h1r : (if x % 10 < 10 then (1 : Int) else 0) = 1 := if_pos (Nat.mod_lt _ (by omega))
        rw [h1r]
        clear h1r hlt hw1 hq HCH
        go_wp2_with fail
        refine (HR.out wr).mono ?_
        rintro e w2 ⟨tt, rfl, ht, f2⟩
        have htt : tt.data.toList = txt x := by rw [ht, HF.out.2.1]
        have hl13 : (txt x).length = 13 := by rw [HF.out.2.1]; exact HF.out.2.2.1
        have htz : tt.size = 13 := by rw [size_list, htt, hl13]
        obtain ⟨cc, w3, hcv, hrd, f3, hfz⟩ := conv_bytes_w w2 tt
        rw [htz] at hcv hrd hfz
        rw [htt] at hrd
        obtain ⟨a, ha⟩ : ∃ a, (txt x)[k]? = some a := ⟨_, List.getElem?_eq_getElem (by omega)⟩
        have hca : w3.cell? ⟨w2.heap.size, k, none⟩ = some (.int .u8 (a.toNat : Int)) := by
          obtain ⟨_, h2'⟩ := hrd
          obtain ⟨ad, e, hat⟩ := h2' (by omega)
          injection e with e
          subst e
          have hadd : (⟨w2.heap.size, 0, none⟩ : Addr).add k = ⟨w2.heap.size, k, none⟩ := by unfold Addr.add; split <;> simp_all
          have := hat k a ha
          rwa [hadd] at this
        have hfr := hfz k (by omega)
        obtain ⟨W4, hW4⟩ : ∃ W4, W4 = w3.setCell ⟨w2.heap.size, k, none⟩ (.int .u8 (t.toNat : Int)) := ⟨_, rfl⟩
        have hrd4 := rd_set hrd (show k < 13 by omega) t
        have fS : Fr (fun b => b = w2.heap.size) w3 W4 := by rw [hW4]; exact (Fr.refl (fun b => b = w2.heap.size) w3).setCell (p := ⟨w2.heap.size, k, none⟩) (.inl rfl) _
        rw [← hW4] at hrd4
        have hcs := conv_string (P := Try.prog) 40 9 5 (c := cc) hrd4 Try.underlying40 Try.underlying5 Try.underlying9
        obtain ⟨u, hu⟩ : ∃ u : ByteArray, u = ⟨((txt x).set k t).toArray⟩ := ⟨_, rfl⟩
        rw [← hu] at hcs
        have hul : u.data.toList = (txt x).set k t := by rw [hu]
        have HO := Lib.hid (P.of_ u W4 (by rw [size_list, hul, List.length_set, hl13]; omega))
        rw [hul] at HO
        have hdt : isDig t = true := by unfold isDig; rw [decide_eq_true_eq]; exact ⟨HF.out.2.2.2.2.1, HF.out.2.2.2.2.2⟩
        have HT := Lib.hid (tells HF.out.1 (show k < 13 by omega) hdt ha)
        obtain ⟨on, hon⟩ : ∃ on, on = ofN ((txt x).set k t) := ⟨_, rfl⟩
        obtain ⟨oe, hoe⟩ : ∃ oe, oe = ofE ((txt x).set k t) := ⟨_, rfl⟩
        rw [← hon, ← hoe] at HO
        have hno : oe ≠ 0 → on = 0 := fun q => by rw [hon]; unfold ofN; rw [← hoe, if_neg q]
        have had : isDig a = true := List.all_eq_true.1 (txt_digs x).1 a (List.mem_of_getElem? ha)
        have ha' : 48 ≤ a.toNat ∧ a.toNat ≤ 57 := of_decide_eq_true had
        have HON := Lib.hid (And.intro hon (And.intro hoe (And.intro hno (And.intro ha' (And.intro ((HW.out.trans f2 (fun _ _ q => q)).trans f3 (fun _ _ q => q)) (And.intro fS (HW.out.trans f2 (fun _ _ q => q)).size))))))
        obtain ⟨v, hv⟩ : ∃ v : Int, v = (a.toNat : Int) - (t.toNat : Int) := ⟨_, rfl⟩
        have ht48 := HF.out.2.2.2.2.1
        have ht57 := HF.out.2.2.2.2.2
        have hwv : wrap64 ((a.toNat : Int) - (t.toNat : Int)) = v := (w64d HF.out.2.2.2.2.1 HF.out.2.2.2.2.2 ha'.1 ha'.2).1.trans hv.symm
        have hwv2 : wrap64 (wrap64 (a.toNat : Int) - (t.toNat : Int)) = v := (w64d HF.out.2.2.2.2.1 HF.out.2.2.2.2.2 ha'.1 ha'.2).2.trans hv.symm
        have HV := Lib.hid hv
        clear hv
        have hk13 : (k : Int) < 13 := by omega
        have hk0 : (0 : Int) ≤ (k : Int) := by omega
        clear ht htt hl13 htz hrd f2 f3 hfz ha hrd4 fS hu hul hdt hon hoe hno had ha' HR
        go_upto_region 13 with fail
        rw [← hW4]
        clear hW4 hca hfr hcv
        go_wp2_with fail
        refine HO.out.mono ?_
        rintro e w5 ⟨rfl, f5⟩
        have H9 := Lib.hid (show Fr (fun _ => False) w w5 from by
          have g1 := HON.out.2.2.2.2.1
          have g2 := HON.out.2.2.2.2.2.1
          have hsz := HON.out.2.2.2.2.2.2
          exact (g1.trans g2 (fun b hb e => by omega)).trans f5 (fun _ _ q => q))
        clear f5 HO hcs
        by_cases e1 : a = t
        · obtain ⟨q1, q2⟩ := HT.out.1 e1
          obtain rfl : oe = 0 := HON.out.2.1.trans q1
          obtain rfl : x = on := (HON.out.1.trans q2).symm
          have hb : ((v : Int) == 0) = true := by rw [HV.out, e1]; simp
          clear q1 q2
          subst e1
          go_wp2_with fail
          all_goals (refine (nknown P _).mono ?_; rintro e wk ⟨rfl, fk⟩; have HK := Lib.hid fk; clear fk; go_wp2_with fail; go_ret; exact ⟨rfl, H9.out.trans HK.out (fun _ _ q => q)⟩)
        · have hne : a.toNat ≠ t.toNat := fun q => e1 (UInt8.toNat_inj.1 q)
          have hb : ((v : Int) == 0) = false := by rw [beq_eq_false_iff_ne]; have := HV.out; omega
          by_cases e2 : k = 0 ∧ t = 48
          · obtain rfl : oe = 2 := HON.out.2.1.trans (HT.out.2.1 e2.1 e2.2 e1)
            obtain rfl : on = 0 := HON.out.2.2.1 (by omega)
            have ek : ((k : Int) == 0) = true := by rw [e2.1]; rfl
            have et : ((t.toNat : Int) == 48) = true := by rw [e2.2]; rfl
            clear e1 e2 hne
            go_wp2_with fail
            all_goals (refine (nknown P _).mono ?_; rintro e wk ⟨rfl, fk⟩; have HK := Lib.hid fk; clear fk; go_wp2_with fail; go_ret; exact ⟨rfl, H9.out.trans HK.out (fun _ _ q => q)⟩)
          · have ek : (((k : Int) == 0) = true ∧ ((t.toNat : Int) == 48) = false) ∨ ((k : Int) == 0) = false := by
              by_cases q : k = 0
              · refine .inl ⟨by rw [q]; rfl, ?_⟩
                rw [beq_eq_false_iff_ne]
                intro q2
                exact e2 ⟨q, UInt8.toNat_inj.1 (by show t.toNat = 48; omega)⟩
              · exact .inr (by rw [beq_eq_false_iff_ne]; omega)
            by_cases e3 : a.toNat = t.toNat + 7 ∨ t.toNat = a.toNat + 7
            · have hoe := HON.out.2.1.trans (HT.out.2.2.1 e1 e2 e3)
              have h7 : ((v : Int) == 7) = true ∨ (((v : Int) == 7) = false ∧ ((v : Int) == -7) = true) := by
                rcases e3 with q | q
                · exact .inl (by rw [beq_iff_eq]; have := HV.out; omega)
                · exact .inr ⟨by rw [beq_eq_false_iff_ne]; have := HV.out; omega, by rw [beq_iff_eq]; have := HV.out; omega⟩
              by_cases e4 : k < 12
              · obtain rfl : oe = 0 := by rw [hoe, if_pos e4]
                have hk12 : (k : Int) < 12 := by omega
                clear e1 e2 e3 e4 hne hoe
                rcases ek with ⟨ek, et⟩ | ek <;> rcases h7 with h7 | ⟨h7, h8⟩
                all_goals go_wp2_with fail
                all_goals (refine (nknown P _).mono ?_; rintro e wk ⟨rfl, fk⟩; have HK := Lib.hid fk; clear fk; go_wp2_with fail; go_ret; exact ⟨rfl, H9.out.trans HK.out (fun _ _ q => q)⟩)
              · obtain rfl : oe = 11 := by rw [hoe, if_neg e4]
                obtain rfl : k = 12 := by omega
                clear e1 e2 e3 e4 hne hoe ek
                rcases h7 with h7 | ⟨h7, h8⟩
                all_goals go_wp2_with fail
                all_goals (refine (nknown P _).mono ?_; rintro e wk ⟨rfl, fk⟩; have HK := Lib.hid fk; clear fk; go_wp2_with fail; go_ret; exact ⟨rfl, H9.out.trans HK.out (fun _ _ q => q)⟩)
            · obtain rfl : oe = 11 := HON.out.2.1.trans (HT.out.2.2.2 e1 e2 e3)
              obtain rfl : on = 0 := HON.out.2.2.1 (by omega)
              have h7 : ((v : Int) == 7) = false := by rw [beq_eq_false_iff_ne]; have := HV.out; omega
              have h8 : ((v : Int) == -7) = false := by rw [beq_eq_false_iff_ne]; have := HV.out; omega
              clear e1 e2 e3 hne
              rcases ek with ⟨ek, et⟩ | ek
              all_goals go_wp2_with fail
              all_goals (refine (nknown P _).mono ?_; rintro e wk ⟨rfl, fk⟩; have HK := Lib.hid fk; clear fk; go_wp2_with fail; go_ret; exact ⟨rfl, H9.out.trans HK.out (fun _ _ q => q)⟩)
  · exact nbad P c s i t w hall
end Go.Proofs.Ytchofmncinbmcaa
