/- The law WireTakes, walked. -/
import Derived.Test.YthmjfbefekicdaaFew
import Derived.Test.YthmjfbefekicdaaKnown
import Derived.Test.YthmjfbefekicdaaLtak
import Derived.Deep.RegionHeld3
namespace Go.Proofs.Ythmjfbefekicdaa
open Go.RowKit

theorem tkOk_nil (s : Int) : tkOk [] s = false := by
  cases h : maySz s with
  | false => simp [tkOk, h]
  | true =>
    have hs : s = 1 ∨ s = 2 ∨ s = 4 ∨ s = 8 := by simpa [maySz, or_assoc] using h
    simp [tkOk, h]
    omega
theorem t_nil (k s : Int) : tNum k s [] = 0 ∧ tGot k s [] = [] ∧ tRest k s [] = [] := by
  have e : ∀ z, tkNum [] z = 0 ∧ tkRest [] z = [] := fun z => by simp [tkNum, tkRest, tkOk_nil]
  have e2 : byGot [] s = [] ∧ byRest [] s = [] := by simp [byGot, byRest]
  have e3 : blGot [] = [] ∧ blRest [] = [] := by simp [blGot, blRest]
  have e4 : flRest [] = [] := by simp [flRest]
  refine ⟨?_, ?_, ?_⟩
  · unfold tNum
    simp [(e _).1]
  · unfold tGot
    simp [e2, e3]
  · unfold tRest
    simp [(e _).2, e2, e3, e4]
theorem t_bad (k s : Int) (l : List UInt8) (h : tOk k s l = false) : tNum k s l = 0 ∧ tGot k s l = [] ∧ tRest k s l = [] := by
  have e : ∀ z, tkOk l z = false → tkNum l z = 0 ∧ tkRest l z = [] := fun z h => by simp [tkNum, tkRest, h]
  unfold tOk at h
  unfold tNum tGot tRest
  by_cases h1 : k = 1
  · subst h1
    simpa using e s (by simpa using h)
  by_cases h2 : k = 2
  · subst h2
    simpa using e 8 (by simpa using h)
  by_cases h3 : k = 3
  · subst h3
    have h' : flOk l = false := by simpa using h
    have hn : tkNum l 1 ≠ 1 := by
      intro q
      have : tkOk l 1 = false := by simpa [flOk, q] using h'
      have := (e 1 this).1
      omega
    simp [hn, flRest, h']
  by_cases h4 : k = 4
  · subst h4
    have h' : byOk l s = false := by simpa using h
    simp [byGot, byRest, h']
  by_cases h5 : k = 5 ∨ k = 6
  · simp only [h1, h2, h3, h4, h5, if_true, if_false] at h ⊢
    simp [blGot, blRest, h]
  · simp only [h1, h2, h3, h4, h5, if_false] at h ⊢
    exact ⟨(e 2 h).1, trivial, (e 2 h).2⟩
theorem tRest_len (k s : Int) (l : List UInt8) : (tRest k s l).length ≤ l.length := by
  have e : ∀ z, (tkRest l z).length ≤ l.length := fun z => by unfold tkRest; split <;> simp
  have e2 : (byRest l s).length ≤ l.length := by unfold byRest; split <;> simp
  have e3 : (blRest l).length ≤ l.length := by unfold blRest; split <;> simp <;> omega
  have e4 : (flRest l).length ≤ l.length := by unfold flRest; split <;> simp
  unfold tRest
  split
  · exact e _
  split
  · exact e _
  split
  · exact e4
  split
  · exact e2
  split
  · exact e3
  · exact e _

theorem Sub.keepg {w w' : World} {g : Nat} {A : Option Addr} {v : Value} {l : List UInt8} (h : Sub w A v l) (f : Fr (fun k => k = g) w w') (hg : 0 < l.length → ∀ ad, A = some ad → ad.block ≠ g) : Sub w' A v l := by
  obtain ⟨A', c, hv, hA, hc, hr, hB⟩ := h
  refine ⟨A', c, hv, hA, hc, hr.keep0 f (fun h0 ad' e hk => ?_), hB⟩
  obtain ⟨ad, e2, e3⟩ := hB ad' e
  exact hg h0 ad e2 (e3 ▸ hk)

/-- From the address L on stand the puts xs. -/
def PutsO (w : World) (B : Nat) (L : Option Addr) (xs : List PutD) : Prop :=
  ∀ i x, xs[i]? = some x → ∃ b off, L = some ⟨b, off, none⟩ ∧ PutOk w B x ∧ w.cell? ⟨b, off + i * 4, none⟩ = some (.int .i64 x.kd) ∧ w.cell? ⟨b, off + i * 4 + 1, none⟩ = some (.int .u64 x.n) ∧
    w.cell? ⟨b, off + i * 4 + 2, none⟩ = some (.int .i64 x.s) ∧ w.cell? ⟨b, off + i * 4 + 3, none⟩ = some (.slice x.A x.m x.c)
theorem cell_keep {F : Nat → Prop} {w w' : World} {p : Addr} {u : Value} (h : w.cell? p = some u) (f : Fr F w w') (hF : ¬ F p.block) : w'.cell? p = some u :=
  (f.cell (World.block_lt_of_cell? w _ h) hF).trans h

/-- Where the law's loop stands. -/
structure TakesRel (w : World) (g : Nat) (A : Option Addr) (m : Nat) (l : List UInt8) (f : Bool) (V : Value) (wr : World) : Prop where
  rr : Rr wr g l f true
  sub : Sub wr A V l
  bad : f = true → l = []
  len : l.length ≤ m
  fr : Fr (fun _ => False) w wr

theorem rend_bad {w : World} {g : Nat} {l : List UInt8} (h : Rr w g l true true) : Calls Try.prog 22 #[.pointer (some ⟨g, 0, none⟩)] w fun e w' => e = .returned (.int .i64 4) ∧ w = w' := rend_any h
theorem rend_more {w : World} {g : Nat} {x : UInt8} {l : List UInt8} (h : Rr w g (x :: l) false true) : Calls Try.prog 22 #[.pointer (some ⟨g, 0, none⟩)] w fun e w' => e = .returned (.int .i64 4) ∧ w = w' := rend_any h
theorem rend_well {w : World} {g : Nat} (h : Rr w g [] false true) : Calls Try.prog 22 #[.pointer (some ⟨g, 0, none⟩)] w fun e w' => e = .returned (.int .i64 0) ∧ w = w' := rend_any h

set_option maxHeartbeats 4000000 in
set_option maxRecDepth 100000 in
theorem takes_any {w : World} {A : Option Addr} {cb : Nat} {b : List UInt8} (hr : Rd w A b.length b) (hnc : b.length ≤ cb) (hA : A = none → cb = 0) (hcb : b.length ≤ maxLen) (hlt : 0 < b.length → ∀ ad, A = some ad → ad.block < w.heap.size)
    {L : Option Addr} {xs : List PutD} {cap : Nat} (h : PutsO w w.heap.size L xs) (hl : xs.length ≤ maxLen)
    (hfew : Calls Try.prog 11 #[.slice L xs.length cap, .int .i64 60] w fun e w' => e = .returned (.bool (fewB xs 60)) ∧ w = w') :
    Calls Try.prog 4 #[.slice A b.length cb, .slice L xs.length cap] w fun e w' => e = .returned (.bool true) ∧ Below w.heap.size w w' := by
  have HF := Lib.hid hfew
  clear hfew
  unfold maxLen at hl hcb
  by_cases hb5 : 5000 < b.length
  · clear hl hr hnc hA hlt h HF
    go_enter Try.func4, Try.ntmps4
    go_wp2_with fail
    refine (known_any _).mono ?_
    rintro e w1 ⟨rfl, hf⟩
    go_wp2
    go_ret
    exact ⟨rfl, hf.below (Nat.le_refl _) (fun _ _ => id)⟩
  have hb5' : b.length ≤ 5000 := by omega
  cases hfew : fewB xs 60 with
  | false =>
    rw [hfew] at HF
    clear hl hr hnc hA hlt h hb5
    go_enter Try.func4, Try.ntmps4
    go_wp2_with fail
    (with_reducible refine HF.out.mono ?_)
    rintro e w1 ⟨rfl, rfl⟩
    go_wp2_with fail
    refine (known_any _).mono ?_
    rintro e w1 ⟨rfl, hf⟩
    go_wp2
    go_ret
    exact ⟨rfl, hf.below (Nat.le_refl _) (fun _ _ => id)⟩
  | true =>
    rw [hfew] at HF
    have h60 : xs.length ≤ 60 := by
      unfold fewB at hfew
      rw [Bool.and_eq_true, decide_eq_true_eq] at hfew
      exact hfew.2
    have H := Lib.hid h
    have HRD := Lib.hid (read_any hr hA (by omega))
    have HB := Lib.hid (And.intro hr (And.intro hnc (And.intro hA hlt)))
    clear hl hfew h hr hnc hA hlt hb5
    go_enter Try.func4, Try.ntmps4
    go_wp2_with fail
    (with_reducible refine HF.out.mono ?_)
    rintro e w1 ⟨rfl, rfl⟩
    go_wp2_with fail
    (with_reducible refine HRD.out.mono ?_)
    rintro e w1 ⟨g, rfl, hrr, hf1, hg⟩
    have hstart : TakesRel w g A b.length b false (.slice A b.length cb) w1 :=
      ⟨hrr, ((HB.out.1).sub HB.out.2.1 HB.out.2.2.1).new hf1, (fun h => by cases h), Nat.le_refl _, hf1⟩
    have HS := Lib.hid hstart
    have HG := Lib.hid hg
    clear hstart hrr hf1 hg
    go_wp2_with fail
    go_loopw [6, 7, 8] (fun V p i wr => ∃ (k : Nat) (l : List UInt8) (f : Bool), i = .int .i64 k ∧ p = .bool (!f) ∧ k ≤ xs.length ∧ TakesRel w g A b.length l f V wr) (fun _ _ i _ => xs.length - (intOf i).toNat)
    case atStart => exact ⟨0, b, false, rfl, rfl, Nat.zero_le _, HS.out⟩
    case round =>
      obtain ⟨k, l, f, rfl, rfl, hk, hrel'⟩ := hrel
      have HR := Lib.hid hrel'
      clear hrel'
      by_cases hlt : k < xs.length
      · obtain ⟨blk, off, rfl, hok, h0, h1, h2, h3⟩ := H.out k xs[k] (List.getElem?_eq_getElem hlt)
        clear hok
        generalize xs[k] = x at *
        have e0 := cell_keep h0 HR.out.fr id
        have e1 := cell_keep h1 HR.out.fr id
        have e2 := cell_keep h2 HR.out.fr id
        have e3 := cell_keep h3 HR.out.fr id
        have hi0 : (0 : Int) ≤ (k : Int) := Int.natCast_nonneg _
        have hi1 : (k : Int) < (xs.length : Int) := by omega
        have hblk : blk < w.heap.size := World.block_lt_of_cell? w _ h0
        have HBLK := Lib.hid hblk
        clear h0 h1 h2 h3 hblk
        have hT := ltake_any HR.out.rr x.kd x.n x.s (.slice x.A x.m x.c)
        have hbd : f = true ∨ tOk (kindOf x.kd) x.s l = false → tNum (kindOf x.kd) x.s l = 0 ∧ tGot (kindOf x.kd) x.s l = [] ∧ tRest (kindOf x.kd) x.s l = [] := by
          rintro (hf | ho)
          · have := HR.out.bad hf
            subst this
            exact t_nil _ _
          · exact t_bad _ _ _ ho
        have hbad := Lib.hid hbd
        clear hbd
        have hrl := Lib.hid (tRest_len (kindOf x.kd) x.s l)
        have HT := Lib.hid hT
        clear hT
        go_wp2_with fail
        (with_reducible refine HT.out.mono ?_)
        rintro e w1' ⟨v, rfl, hss, hr1, hf1⟩
        have hg0 : ¬ blk = g := by have := HG.out; have := HBLK.out; omega
        have d0 := cell_keep e0 hf1 hg0
        have d1 := cell_keep e1 hf1 hg0
        have d2 := cell_keep e2 hf1 hg0
        have d3 := cell_keep e3 hf1 hg0
        have hsub1 := HR.out.sub.keepg hf1 (fun h0 ad e => by
          have h1 := HB.out.2.2.2 (Nat.lt_of_lt_of_le h0 HR.out.len) ad e
          have := HG.out
          omega)
        obtain ⟨A1, c1, hV, hA1, hc1, hrd1, hB1⟩ := hsub1
        subst hV
        have H1 := Lib.hid (And.intro hss (And.intro hr1 (And.intro hf1 (And.intro hA1 (And.intro hc1 (And.intro hrd1 hB1))))))
        have HL5 : Hid (l.length ≤ 70368744177664) := Lib.hid (by have := HR.out.len; omega)
        clear hss hr1 hf1 hA1 hc1 hrd1 hB1 e0 e1 e2 e3 hg0
        go_wp2_with fail
        go_region_held3 (fun w' => w'.cell? ⟨blk, off + k * 4, none⟩ = some (.int .i64 x.kd) ∧ w'.cell? ⟨blk, off + k * 4 + 1, none⟩ = some (.int .u64 x.n) ∧
            w'.cell? ⟨blk, off + k * 4 + 2, none⟩ = some (.int .i64 x.s) ∧ w'.cell? ⟨blk, off + k * 4 + 3, none⟩ = some (.slice x.A x.m x.c))
          (first
            | go_keep
            | (go_split_ands
               refine ⟨?_, ?_, ?_, ?_⟩
               · exact cell_keep (by assumption) hf2 id
               · exact cell_keep (by assumption) hf2 id
               · exact cell_keep (by assumption) hf2 id
               · exact cell_keep (by assumption) hf2 id))
          ((first
            | (go_at_call 14; refine (kind_any _ _).mono ?_; rintro e w2 ⟨rfl, rfl⟩)
            | (go_at_call 20; refine (rtake_any (w := w1'.drew) (by exact H1.out.2.2.2.2.2.1) H1.out.2.2.2.2.1 H1.out.2.2.2.1 HL5.out _ (kindOf_in x.kd) x.s).mono ?_; rintro e w2 ⟨y1, y2, rfl, hs1, hs2, hf2⟩)))
        clear hi0 hi1
        have hf3 : Fr (fun _ => False) w1' w2 := ((Fr.refl _ w1').drew).trans hf2 (fun _ _ => id)
        have HD := Lib.hid (And.intro hs1 (And.intro hs2 hf3))
        clear hs1 hs2 hf2 hf3 d0 d1 d2 d3
        generalize tNum (kindOf x.kd) x.s l = nn at *
        generalize tGot (kindOf x.kd) x.s l = gg at *
        generalize tRest (kindOf x.kd) x.s l = yy at *
        generalize tOk (kindOf x.kd) x.s l = o at *
        cases f
        · cases o
          · obtain ⟨rfl, rfl, rfl⟩ := hbad.out (.inr rfl)
            have hr2 : Rr w2 g [] true true := H1.out.2.1.keep HD.out.2.2 (fun _ q => q.elim)
            obtain ⟨Av, cv, hv, hrv⟩ := H1.out.1.new HD.out.2.2
            have hv' : v = .slice Av 0 cv := hv
            have hrv' : Rd w2 Av 0 [] := hrv
            subst hv'
            obtain ⟨A2, c2, hy1, _, _, _, _⟩ := HD.out.1
            have hy1' : y1 = .slice A2 0 c2 := hy1
            subst hy1'
            obtain ⟨A3, c3, hy2, _, _, _, _⟩ := HD.out.2.1
            have hy2' : y2 = .slice A3 0 c3 := hy2
            subst hy2'
            have hcv5 := conv_string (P := Try.prog) 26 9 5 (c := cv) hrv' Try.underlying26 Try.underlying5 Try.underlying9
            have hcv6 := conv_string (P := Try.prog) 26 9 5 (c := 0) (Rd.nil w2 none) Try.underlying26 Try.underlying5 Try.underlying9
            have HR2 := Lib.hid hr2
            clear hr2 hrv hrv' hv hy1 hy2
            go_wp2_with fail
            refine (left_any HR2.out).mono ?_
            rintro e w3 ⟨rfl, rfl⟩
            go_wp2_with fail
            refine (rend_bad HR2.out).mono ?_
            rintro e w3 ⟨rfl, rfl⟩
            go_wp2_with fail
            have hgw := HG.out
            exact ⟨⟨k + 1, [], true, by go_num, rfl, by omega, ⟨HR2.out, Sub.nil _ _, fun _ => rfl, Nat.zero_le _, (HR.out.fr.trans H1.out.2.2.1 (fun i hi q => by omega)).trans HD.out.2.2 (fun _ _ => id)⟩⟩, by simp [intOf]; omega⟩
          · cases yy
            · have hr2 : Rr w2 g [] false true := H1.out.2.1.keep HD.out.2.2 (fun _ q => q.elim)
              obtain ⟨Av, cv, rfl, hrv⟩ := H1.out.1.new HD.out.2.2
              have hsy := HD.out.2.1
              obtain ⟨A2, c2, rfl, _, _, hry, _⟩ := HD.out.1
              obtain ⟨A3, c3, hy2, _, _, _, _⟩ := HD.out.2.1
              have hy2' : y2 = .slice A3 0 c3 := hy2
              subst hy2'
              have hcv5 := conv_string (P := Try.prog) 26 9 5 (c := cv) hrv Try.underlying26 Try.underlying5 Try.underlying9
              have hcv6 := conv_string (P := Try.prog) 26 9 5 (c := c2) hry Try.underlying26 Try.underlying5 Try.underlying9
              have HR2 := Lib.hid (And.intro hr2 (hsy.sub H1.out.2.2.2.2.2.2))
              clear hr2 hrv hry hy2 hsy
              go_wp2_with fail
              refine (left_any HR2.out.1).mono ?_
              rintro e w3 ⟨rfl, rfl⟩
              go_wp2_with fail
              refine (rend_well HR2.out.1).mono ?_
              rintro e w3 ⟨rfl, rfl⟩
              go_wp2_with fail
              have hgw := HG.out
              have hlr := HR.out.len
              have hlr2 := hrl.out
              exact ⟨⟨k + 1, [], false, by go_num, rfl, by omega, ⟨HR2.out.1, HR2.out.2, (fun h => by cases h), by omega, (HR.out.fr.trans H1.out.2.2.1 (fun i hi q => by omega)).trans HD.out.2.2 (fun _ _ => id)⟩⟩, by simp [intOf]; omega⟩
            · rename_i z zs
              have hd : decide (0 < zs.length + 1) = true := by rw [decide_eq_true_eq]; omega
              have hd' : decide (0 < (zs.length : Int) + 1) = true := by rw [decide_eq_true_eq]; omega
              have hr2 : Rr w2 g (z :: zs) false true := H1.out.2.1.keep HD.out.2.2 (fun _ q => q.elim)
              obtain ⟨Av, cv, rfl, hrv⟩ := H1.out.1.new HD.out.2.2
              have hsy := HD.out.2.1
              obtain ⟨A2, c2, rfl, _, _, hry, _⟩ := HD.out.1
              obtain ⟨A3, c3, hy2, _, _, _, _⟩ := HD.out.2.1
              have hy2' : y2 = .slice A3 (zs.length + 1) c3 := hy2
              subst hy2'
              have hcv5 := conv_string (P := Try.prog) 26 9 5 (c := cv) hrv Try.underlying26 Try.underlying5 Try.underlying9
              have hcv6 := conv_string (P := Try.prog) 26 9 5 (c := c2) hry Try.underlying26 Try.underlying5 Try.underlying9
              have HR2 := Lib.hid (And.intro hr2 (hsy.sub H1.out.2.2.2.2.2.2))
              clear hr2 hrv hry hy2 hsy
              go_wp2_with fail
              refine (left_any HR2.out.1).mono ?_
              rintro e w3 ⟨rfl, rfl⟩
              go_wp2_with fail
              refine (rend_more HR2.out.1).mono ?_
              rintro e w3 ⟨rfl, rfl⟩
              go_wp2_with fail
              have hgw := HG.out
              have hlr := HR.out.len
              have hlr2 := hrl.out
              exact ⟨⟨k + 1, (z :: zs), false, by go_num, rfl, by omega, ⟨HR2.out.1, HR2.out.2, (fun h => by cases h), by omega, (HR.out.fr.trans H1.out.2.2.1 (fun i hi q => by omega)).trans HD.out.2.2 (fun _ _ => id)⟩⟩, by simp [intOf]; omega⟩
        · cases o
          · obtain ⟨rfl, rfl, rfl⟩ := hbad.out (.inl rfl)
            have hr2 : Rr w2 g [] true true := H1.out.2.1.keep HD.out.2.2 (fun _ q => q.elim)
            obtain ⟨Av, cv, hv, hrv⟩ := H1.out.1.new HD.out.2.2
            have hv' : v = .slice Av 0 cv := hv
            have hrv' : Rd w2 Av 0 [] := hrv
            subst hv'
            obtain ⟨A2, c2, hy1, _, _, _, _⟩ := HD.out.1
            have hy1' : y1 = .slice A2 0 c2 := hy1
            subst hy1'
            obtain ⟨A3, c3, hy2, _, _, _, _⟩ := HD.out.2.1
            have hy2' : y2 = .slice A3 0 c3 := hy2
            subst hy2'
            have hcv5 := conv_string (P := Try.prog) 26 9 5 (c := cv) hrv' Try.underlying26 Try.underlying5 Try.underlying9
            have hcv6 := conv_string (P := Try.prog) 26 9 5 (c := 0) (Rd.nil w2 none) Try.underlying26 Try.underlying5 Try.underlying9
            have HR2 := Lib.hid hr2
            clear hr2 hrv hrv' hv hy1 hy2
            go_wp2_with fail
            refine (left_any HR2.out).mono ?_
            rintro e w3 ⟨rfl, rfl⟩
            go_wp2_with fail
            refine (rend_bad HR2.out).mono ?_
            rintro e w3 ⟨rfl, rfl⟩
            go_wp2_with fail
            have hgw := HG.out
            exact ⟨⟨k + 1, [], true, by go_num, rfl, by omega, ⟨HR2.out, Sub.nil _ _, fun _ => rfl, Nat.zero_le _, (HR.out.fr.trans H1.out.2.2.1 (fun i hi q => by omega)).trans HD.out.2.2 (fun _ _ => id)⟩⟩, by simp [intOf]; omega⟩
          · obtain ⟨rfl, rfl, rfl⟩ := hbad.out (.inl rfl)
            have hr2 : Rr w2 g [] true true := H1.out.2.1.keep HD.out.2.2 (fun _ q => q.elim)
            obtain ⟨Av, cv, hv, hrv⟩ := H1.out.1.new HD.out.2.2
            have hv' : v = .slice Av 0 cv := hv
            have hrv' : Rd w2 Av 0 [] := hrv
            subst hv'
            obtain ⟨A2, c2, hy1, _, _, _, _⟩ := HD.out.1
            have hy1' : y1 = .slice A2 0 c2 := hy1
            subst hy1'
            obtain ⟨A3, c3, hy2, _, _, _, _⟩ := HD.out.2.1
            have hy2' : y2 = .slice A3 0 c3 := hy2
            subst hy2'
            have hcv5 := conv_string (P := Try.prog) 26 9 5 (c := cv) hrv' Try.underlying26 Try.underlying5 Try.underlying9
            have hcv6 := conv_string (P := Try.prog) 26 9 5 (c := 0) (Rd.nil w2 none) Try.underlying26 Try.underlying5 Try.underlying9
            have HR2 := Lib.hid hr2
            clear hr2 hrv hrv' hv hy1 hy2
            go_wp2_with fail
            refine (left_any HR2.out).mono ?_
            rintro e w3 ⟨rfl, rfl⟩
            go_wp2_with fail
            refine (rend_bad HR2.out).mono ?_
            rintro e w3 ⟨rfl, rfl⟩
            go_wp2_with fail
            have hgw := HG.out
            exact ⟨⟨k + 1, [], true, by go_num, rfl, by omega, ⟨HR2.out, Sub.nil _ _, fun _ => rfl, Nat.zero_le _, (HR.out.fr.trans H1.out.2.2.1 (fun i hi q => by omega)).trans HD.out.2.2 (fun _ _ => id)⟩⟩, by simp [intOf]; omega⟩
      · obtain rfl : k = xs.length := by omega
        clear hlt
        go_wp2_with fail
        refine (rfail_any HR.out.rr).mono ?_
        rintro e w2 ⟨rfl, hr2, hf2⟩
        have H2 := Lib.hid (And.intro hr2 hf2)
        clear hr2 hf2
        go_wp2_with fail
        refine (left_any H2.out.1).mono ?_
        rintro e w3 ⟨rfl, rfl⟩
        go_wp2_with fail
        refine (rbytes_any H2.out.1 0).mono ?_
        rintro e w3 ⟨v3, rfl, h3⟩
        have h3' : Got w2 g [] [] true true v3 w3 := h3
        obtain ⟨A3, c3, hv3, _, _, _⟩ := Sl.of_own h3'.1
        have hv3' : v3 = .slice A3 0 c3 := hv3
        subst hv3'
        have H3 := Lib.hid (And.intro h3'.2.1 h3'.2.2)
        clear h3 h3' hv3
        go_wp2_with fail
        refine (rend_bad H3.out.1).mono ?_
        rintro e w4 ⟨rfl, rfl⟩
        go_wp2_with fail
        refine (known_any _).mono ?_
        rintro e w5 ⟨rfl, f5⟩
        have HK := Lib.hid f5
        clear f5
        go_wp2
        go_ret
        have hgw := HG.out
        have hfin : Fr (fun _ => False) w w5 := ((HR.out.fr.trans H2.out.2 (fun i hi q => by omega)).trans H3.out.2 (fun i hi q => by omega)).trans HK.out (fun _ _ => id)
        exact ⟨rfl, hfin.below (Nat.le_refl _) (fun _ _ => id)⟩
end Go.Proofs.Ythmjfbefekicdaa
