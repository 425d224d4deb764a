/- ticket's over: parts that are put. -/
import Derived.Test.YtmopkfjnjbimnaaKqc
namespace Go.Proofs.Ytmopkfjnjbimnaa
open Go.RowKit

structure PutOk (t : TkD) : Prop where
  num : u64B t.num
  prv : u64B t.prv
  org : u64B t.org
  fst : u64B t.fst
  loc : t.loc.size = 6
  iss : 0 ≤ t.iss ∧ t.iss ≤ 1000000
  vou : 0 ≤ t.vou ∧ t.vou ≤ 1125899906842624
  pos : 0 ≤ t.pos ∧ t.pos ≤ 200
  nc : t.cps.length ≤ 4
  nt : t.txs.length ≤ 4
  nh : t.his.length ≤ 60
  cps : ∀ c ∈ t.cps, (0 ≤ c.fl ∧ c.fl ≤ 9999) ∧ (0 ≤ c.dy ∧ c.dy ≤ 1000000) ∧ (0 ≤ c.va ∧ c.va ≤ 1000000000000) ∧ (0 ≤ c.st ∧ c.st ≤ 9) ∧ (0 ≤ c.ho ∧ c.ho ≤ 1000) ∧ u64B c.nx
  txs : ∀ x ∈ t.txs, (0 ≤ x.co ∧ x.co ≤ 99) ∧ (0 ≤ x.am ∧ x.am ≤ 1000000000000)
  his : ∀ x ∈ t.his, (0 ≤ x.dy ∧ x.dy ≤ 1000000) ∧ (0 ≤ x.cp ∧ x.cp ≤ 4) ∧ (0 ≤ x.fr ∧ x.fr ≤ 9) ∧ (0 ≤ x.tw ∧ x.tw ≤ 9)
theorem mayS_in {n : Int} (h : mayS n = true) : 0 ≤ n ∧ n ≤ 9 := by
  unfold mayS at h
  simp only [decide_eq_true_eq] at h
  omega
theorem leads_in {a b : Int} (h : leadsS a b = true) : (0 ≤ a ∧ a ≤ 9) ∧ (0 ≤ b ∧ b ≤ 9) := by
  unfold leadsS at h
  simp only [Bool.and_eq_true] at h
  exact ⟨mayS_in h.1.1, mayS_in h.1.2⟩
theorem evsOn_in (till : Int) : ∀ (l : List EvT) (s r : List Int × List Int × Int), evsOn till s l = some r → 0 ≤ s.2.2 → s.1.length ≤ 4 → ∀ x ∈ l, (0 ≤ x.dy ∧ x.dy ≤ 1000000) ∧ (0 ≤ x.cp ∧ x.cp ≤ 4) ∧ (0 ≤ x.fr ∧ x.fr ≤ 9) ∧ (0 ≤ x.tw ∧ x.tw ≤ 9) := by
  intro l
  induction l with
  | nil => intro s r _ _ _ x hx; cases hx
  | cons y l ih =>
    intro s r h h0 hn x hx
    obtain ⟨now, was, d⟩ := s
    simp only [evsOn, evOn_G] at h
    by_cases g : tellG now d y = true
    · rw [if_pos g, Option.bind_some] at h
      have g2 := g
      unfold tellG hasB at g2
      simp only [Bool.and_eq_true, decide_eq_true_eq] at g2
      have h0' : 0 ≤ d := h0
      have hn' : now.length ≤ 4 := hn
      rcases List.mem_cons.1 hx with rfl | hx
      · have := leads_in g2.2.2
        exact ⟨by omega, by omega, this.1, this.2⟩
      · exact ih _ _ h (by show 0 ≤ y.dy; omega) (by simpa using hn) x hx
    · rw [if_neg g] at h
      cases h
theorem putOk_of {t : TkD} (hm : mayT t = true) (hok : TkOk t) : PutOk t := by
  rw [mayT_eq] at hm
  unfold countsB coupsB taxesB tellsB dayB at hm
  simp only [Bool.and_eq_true, decide_eq_true_eq, List.all_eq_true] at hm
  obtain ⟨⟨⟨⟨⟨⟨⟨h1, h2⟩, h3⟩, h4⟩, h5⟩, h6⟩, h7⟩, h8⟩ := hm
  have hloc : t.loc.size = 6 := by
    unfold locB at h2
    simp only [Bool.and_eq_true, decide_eq_true_eq] at h2
    rw [size_list]
    exact h2.2
  refine ⟨hok.num, hok.prv, hok.org, hok.fst, hloc, by omega, by omega, by omega, h6.1.2, h7.1, h8.1, fun c hc => ?_, fun x hx => ?_, fun x hx => ?_⟩
  · have h9 := h6.2 c hc
    rw [cpB_w] at h9
    unfold dayB someB at h9
    simp only [Bool.and_eq_true, decide_eq_true_eq] at h9
    obtain ⟨⟨⟨⟨⟨k1, k2⟩, k3⟩, k4⟩, k5⟩, k6⟩ := h9
    refine ⟨by omega, k3, k4, mayS_in k5, ?_, (hok.cps c hc).nx⟩
    unfold wB at k6
    split at k6
    · simp only [Bool.and_eq_true, decide_eq_true_eq] at k6
      omega
    · split at k6
      · simp only [Bool.and_eq_true, decide_eq_true_eq] at k6
        omega
      · simp only [Bool.and_eq_true, decide_eq_true_eq] at k6
        omega
  · obtain ⟨j, hj⟩ := List.mem_iff_getElem?.1 hx
    have h9 := txsB_at t.txs t.txs.length 0 (Nat.le_refl _) h7.2 j x (List.getElem?_eq_some_iff.1 hj).1 hj
    have h10 := h9.2.2
    unfold someB at h10
    simp only [decide_eq_true_eq] at h10
    exact ⟨by omega, h10⟩
  · have h9 := h8.2
    rw [then_st0] at h9
    cases hE : evsOn 0 (st0 t t.cps.length) t.his with
    | none => rw [hE] at h9; simp at h9
    | some r => exact evsOn_in 0 _ _ _ hE (by show 0 ≤ t.iss; omega) (by show (List.replicate _ _).length ≤ 4; simp; omega) x hx
theorem flat_le {α : Type} (f : α → List UInt8) (k : Nat) (hf : ∀ x, (f x).length = k) (l : List α) : ((l.map f).flatten).length ≤ l.length * k := by
  induction l with
  | nil => simp
  | cons x l ih => rw [List.map_cons, List.flatten_cons, List.length_append, hf, List.length_cons, Nat.add_mul, Nat.one_mul]; omega
theorem cpBy_len (c : CpD) : (cpBy c).length = 25 := by unfold cpBy; simp [be_len]
theorem txBy_len (c : TxD) : (txBy c).length = 9 := by unfold txBy; simp [be_len]
theorem evBy_len (c : EvT) : (evBy c).length = 7 := by unfold evBy; simp [be_len]
theorem rwo_get {α : Type} {w : World} {B : Nat} {T : TypeId} {k : Nat} {enc : α → List Value} {v : Value} {xs : List α} (h : RwO w B T k enc v xs) (hk : ∀ x, (enc x).length = k) {i : Nat} {x : α} (hx : xs[i]? = some x) :
    ∃ g c cur, v = .slice (some ⟨g, 0, none⟩) xs.length c ∧ Blk w g T cur ∧ B ≤ g ∧ ∀ (i : Nat) (x : α) (j : Nat) (u : Value), xs[i]? = some x → (enc x)[j]? = some u → cur[i * k + j]? = some u := by
  obtain ⟨h0, ⟨h1, h2⟩ | ⟨g, c, cur, hv, hb, hg, hc, hx', hs, ht⟩⟩ := h
  · have := (List.getElem?_eq_some_iff.1 hx).1
    omega
  · refine ⟨g, c, cur, hv, hg, hb, fun i x j u hx hu => ?_⟩
    have h5 := flat_get hk xs i j x u hx hu
    rw [← ht, List.getElem?_take] at h5
    split at h5
    · rwa [Array.getElem?_toList] at h5
    · cases h5
set_option maxRecDepth 100000 in
set_option maxHeartbeats 8000000 in
theorem pover_any {w : World} {gW gP B : Nat} {t : TkD} {A1 A2 A3 : Option Addr} {n1 n2 n3 c1 c2 c3 : Nat} (h : WP w gW []) (hp : PutOk t) (hb : Blk w gP 69 (tkA t (.slice A1 n1 c1) (.slice A2 n2 c2) (.slice A3 n3 c3))) (hg : gP ≠ gW) (hgw : gW < w.heap.size) (hB : gW < B)
    (h1 : RwO w B 49 6 cpC (.slice A1 n1 c1) t.cps) (h2 : RwO w B 62 2 txC (.slice A2 n2 c2) t.txs) (h3 : RwO w B 51 4 evC (.slice A3 n3 c3) t.his) :
    Calls Try.prog 30 #[.pointer (some ⟨gP, 0, none⟩), .func (.func 31) #[.pointer (some ⟨gW, 0, none⟩)] #[]] w fun e w' => e = .returned (.tuple #[]) ∧ WP w' gW (bytesT t) ∧ St w w' gW := by
  have HP := Lib.hid hp
  have HO := Lib.hid (And.intro h1 (And.intro h2 h3))
  have HG := Lib.hid (And.intro hg (And.intro hgw hB))
  have HBP : Hid (∀ W, St w W gW → Blk W gP 69 (tkA t (.slice A1 n1 c1) (.slice A2 n2 c2) (.slice A3 n3 c3))) := Lib.hid (fun W s => s.keep gP _ _ (by decide) hg hb)
  have HN : Hid ((n1 = t.cps.length ∧ n1 ≤ c1) ∧ (n2 = t.txs.length ∧ n2 ≤ c2) ∧ (n3 = t.his.length ∧ n3 ≤ c3)) := Lib.hid (by
    obtain ⟨A, c, q1, q2, _⟩ := own_slice h1
    obtain ⟨A', c', q3, q4, _⟩ := own_slice h2
    obtain ⟨A'', c'', q5, q6, _⟩ := own_slice h3
    injection q1 with _ e1 e2
    injection q3 with _ e3 e4
    injection q5 with _ e5 e6
    subst e1 e2 e3 e4 e5 e6
    exact ⟨⟨rfl, q2⟩, ⟨rfl, q4⟩, ⟨rfl, q6⟩⟩)
  obtain ⟨iN, hi⟩ : ∃ n : Nat, t.iss = (n : Int) := ⟨t.iss.toNat, by have := hp.iss; omega⟩
  obtain ⟨vN, hvo⟩ : ∃ n : Nat, t.vou = (n : Int) := ⟨t.vou.toNat, by have := hp.vou; omega⟩
  obtain ⟨pN, hpo⟩ : ∃ n : Nat, t.pos = (n : Int) := ⟨t.pos.toNat, by have := hp.pos; omega⟩
  have HI := Lib.hid (And.intro hi (And.intro hvo hpo))
  have HI2 : Hid (iN ≤ 1000000 ∧ vN ≤ 1125899906842624 ∧ pN ≤ 200) := Lib.hid (by have := hp.iss; have := hp.vou; have := hp.pos; omega)
  have H0 : Hid ((WP w gW [] ∧ ([] : List UInt8).length ≤ 0) ∧ St w w gW) := Lib.hid ⟨⟨h, Nat.le_refl _⟩, St.refl _ _⟩
  clear hp hb hg hgw hB h h1 h2 h3 hi hvo hpo
  go_enter Try.func30, Try.ntmps30
  go_wp2_with fail
  refine (pwhole_u H0.out.1.1 (HBP.out _ H0.out.2) (by decide) (HG.out.1) (rfl) 8 (by have := HI2.out; have := HP.out.num; have := HP.out.prv; have := HP.out.org; have := HP.out.fst; unfold u64B at *; omega) (by have := HI2.out; have := HP.out.num; have := HP.out.prv; have := HP.out.org; have := HP.out.fst; unfold u64B at *; unfold numOk; simp; try omega) (by have := H0.out.1.2; omega)).mono ?_
  rintro e v1 ⟨rfl, h1, h2⟩
  have H1 : Hid ((WP v1 gW (([] : List UInt8) ++ be t.num 8) ∧ (([] : List UInt8) ++ be t.num 8).length ≤ 8) ∧ St w v1 gW) := Lib.hid ⟨⟨h1, by rw [List.length_append, be_len]; have := H0.out.1.2; omega⟩, H0.out.2.trans h2⟩
  clear h1 h2
  go_wp2_with fail
  refine (ploc_any H1.out.1.1 (HBP.out _ H1.out.2) (by decide) HG.out.1 (by have := H1.out.2.fr.size; have := HG.out.2.1; omega) (off := 1) rfl HP.out.loc (by have := H1.out.1.2; omega)).mono ?_
  rintro e vL ⟨rfl, h1, h2⟩
  have HL0 : Hid ((WP vL gW (([] : List UInt8) ++ be t.num 8 ++ t.loc.data.toList) ∧ (([] : List UInt8) ++ be t.num 8 ++ t.loc.data.toList).length ≤ 14) ∧ St w vL gW) := Lib.hid ⟨⟨h1, by rw [List.length_append]; have := H1.out.1.2; have h6 : t.loc.data.toList.length = 6 := (by rw [← size_list]; exact HP.out.loc); omega⟩, H1.out.2.trans h2⟩
  clear h1 h2
  go_wp2_with fail
  refine (pwhole_i HL0.out.1.1 (HBP.out _ HL0.out.2) (by decide) (HG.out.1) (by rw [show tkA t (.slice A1 n1 c1) (.slice A2 n2 c2) (.slice A3 n3 c3) = tkA t (.slice A1 n1 c1) (.slice A2 n2 c2) (.slice A3 n3 c3) from rfl]; exact congrArg (fun z => some (Value.int .i64 z)) HI.out.1) 4 (by have := HI2.out; have := HP.out.num; have := HP.out.prv; have := HP.out.org; have := HP.out.fst; unfold u64B at *; omega) (by have := HI2.out; have := HP.out.num; have := HP.out.prv; have := HP.out.org; have := HP.out.fst; unfold u64B at *; unfold numOk; simp; try omega) (by have := HL0.out.1.2; omega)).mono ?_
  rintro e v2 ⟨rfl, h1, h2⟩
  have H2 : Hid ((WP v2 gW ((([] : List UInt8) ++ be t.num 8 ++ t.loc.data.toList) ++ be iN 4) ∧ ((([] : List UInt8) ++ be t.num 8 ++ t.loc.data.toList) ++ be iN 4).length ≤ 18) ∧ St w v2 gW) := Lib.hid ⟨⟨h1, by rw [List.length_append, be_len]; have := HL0.out.1.2; omega⟩, HL0.out.2.trans h2⟩
  clear h1 h2
  go_wp2_with fail
  refine (pwhole_u H2.out.1.1 (HBP.out _ H2.out.2) (by decide) (HG.out.1) (rfl) 8 (by have := HI2.out; have := HP.out.num; have := HP.out.prv; have := HP.out.org; have := HP.out.fst; unfold u64B at *; omega) (by have := HI2.out; have := HP.out.num; have := HP.out.prv; have := HP.out.org; have := HP.out.fst; unfold u64B at *; unfold numOk; simp; try omega) (by have := H2.out.1.2; omega)).mono ?_
  rintro e v3 ⟨rfl, h1, h2⟩
  have H3 : Hid ((WP v3 gW (((([] : List UInt8) ++ be t.num 8 ++ t.loc.data.toList) ++ be iN 4) ++ be t.prv 8) ∧ (((([] : List UInt8) ++ be t.num 8 ++ t.loc.data.toList) ++ be iN 4) ++ be t.prv 8).length ≤ 26) ∧ St w v3 gW) := Lib.hid ⟨⟨h1, by rw [List.length_append, be_len]; have := H2.out.1.2; omega⟩, H2.out.2.trans h2⟩
  clear h1 h2
  go_wp2_with fail
  refine (pwhole_u H3.out.1.1 (HBP.out _ H3.out.2) (by decide) (HG.out.1) (rfl) 8 (by have := HI2.out; have := HP.out.num; have := HP.out.prv; have := HP.out.org; have := HP.out.fst; unfold u64B at *; omega) (by have := HI2.out; have := HP.out.num; have := HP.out.prv; have := HP.out.org; have := HP.out.fst; unfold u64B at *; unfold numOk; simp; try omega) (by have := H3.out.1.2; omega)).mono ?_
  rintro e v4 ⟨rfl, h1, h2⟩
  have H4 : Hid ((WP v4 gW ((((([] : List UInt8) ++ be t.num 8 ++ t.loc.data.toList) ++ be iN 4) ++ be t.prv 8) ++ be t.org 8) ∧ ((((([] : List UInt8) ++ be t.num 8 ++ t.loc.data.toList) ++ be iN 4) ++ be t.prv 8) ++ be t.org 8).length ≤ 34) ∧ St w v4 gW) := Lib.hid ⟨⟨h1, by rw [List.length_append, be_len]; have := H3.out.1.2; omega⟩, H3.out.2.trans h2⟩
  clear h1 h2
  go_wp2_with fail
  refine (pwhole_u H4.out.1.1 (HBP.out _ H4.out.2) (by decide) (HG.out.1) (rfl) 8 (by have := HI2.out; have := HP.out.num; have := HP.out.prv; have := HP.out.org; have := HP.out.fst; unfold u64B at *; omega) (by have := HI2.out; have := HP.out.num; have := HP.out.prv; have := HP.out.org; have := HP.out.fst; unfold u64B at *; unfold numOk; simp; try omega) (by have := H4.out.1.2; omega)).mono ?_
  rintro e v5 ⟨rfl, h1, h2⟩
  have H5 : Hid ((WP v5 gW (((((([] : List UInt8) ++ be t.num 8 ++ t.loc.data.toList) ++ be iN 4) ++ be t.prv 8) ++ be t.org 8) ++ be t.fst 8) ∧ (((((([] : List UInt8) ++ be t.num 8 ++ t.loc.data.toList) ++ be iN 4) ++ be t.prv 8) ++ be t.org 8) ++ be t.fst 8).length ≤ 42) ∧ St w v5 gW) := Lib.hid ⟨⟨h1, by rw [List.length_append, be_len]; have := H4.out.1.2; omega⟩, H4.out.2.trans h2⟩
  clear h1 h2
  go_wp2_with fail
  refine (pwhole_l H5.out.1.1 (HBP.out _ H5.out.2) (by decide) (HG.out.1) (congrArg (fun z => some (Value.int .i64 z)) HI.out.2.1) 8 (by have := HI2.out; have := HP.out.num; have := HP.out.prv; have := HP.out.org; have := HP.out.fst; unfold u64B at *; omega) (by have := HI2.out; have := HP.out.num; have := HP.out.prv; have := HP.out.org; have := HP.out.fst; unfold u64B at *; unfold numOk; simp; try omega) (by have := H5.out.1.2; omega)).mono ?_
  rintro e v6 ⟨rfl, h1, h2⟩
  have H6 : Hid ((WP v6 gW ((((((([] : List UInt8) ++ be t.num 8 ++ t.loc.data.toList) ++ be iN 4) ++ be t.prv 8) ++ be t.org 8) ++ be t.fst 8) ++ be vN 8) ∧ ((((((([] : List UInt8) ++ be t.num 8 ++ t.loc.data.toList) ++ be iN 4) ++ be t.prv 8) ++ be t.org 8) ++ be t.fst 8) ++ be vN 8).length ≤ 50) ∧ St w v6 gW) := Lib.hid ⟨⟨h1, by rw [List.length_append, be_len]; have := H5.out.1.2; omega⟩, H5.out.2.trans h2⟩
  clear h1 h2
  go_wp2_with fail
  refine (pmany_cp H6.out.1.1 (HBP.out _ H6.out.2) (by decide) HG.out.1 (off := 3) (A := A1) (n := n1) (c := c1) rfl (by have := HN.out; have := HP.out.nc; have := HP.out.nt; have := HP.out.nh; omega) (by have := HN.out; omega) (by have := H6.out.1.2; omega)).mono ?_
  rintro e v7 ⟨rfl, h1, h2⟩
  have H7 : Hid ((WP v7 gW (((((((([] : List UInt8) ++ be t.num 8 ++ t.loc.data.toList) ++ be iN 4) ++ be t.prv 8) ++ be t.org 8) ++ be t.fst 8) ++ be vN 8) ++ be n1 1) ∧ (((((((([] : List UInt8) ++ be t.num 8 ++ t.loc.data.toList) ++ be iN 4) ++ be t.prv 8) ++ be t.org 8) ++ be t.fst 8) ++ be vN 8) ++ be n1 1).length ≤ 51) ∧ St w v7 gW) := Lib.hid ⟨⟨h1, by rw [List.length_append, be_len]; have := H6.out.1.2; omega⟩, H6.out.2.trans h2⟩
  clear h1 h2
  obtain ⟨LB1, hLB1⟩ : ∃ L, L = (((((((([] : List UInt8) ++ be t.num 8 ++ t.loc.data.toList) ++ be iN 4) ++ be t.prv 8) ++ be t.org 8) ++ be t.fst 8) ++ be vN 8) ++ be n1 1) := ⟨_, rfl⟩
  have HE1 := Lib.hid hLB1
  rw [← hLB1] at H7
  clear hLB1
  have hz1 : v7.cell? ⟨gP, 3, none⟩ = some (.slice A1 n1 c1) := cp_cell (HBP.out _ H7.out.2) 3 rfl
  go_wp2_with fail
  clear hz1
  have HI1x : Hid (WP v7 gW (LB1 ++ ((t.cps.take 0).map cpBy).flatten) ∧ St w v7 gW) := Lib.hid ⟨by simpa using H7.out.1.1, H7.out.2⟩
  have HK1 : Hid (LB1.length ≤ 51) := Lib.hid H7.out.1.2
  go_loopw [55] (fun x wr => ∃ k : Nat, x = .int .i64 k ∧ k ≤ n1 ∧ Hid (WP wr gW (LB1 ++ ((t.cps.take k).map cpBy).flatten) ∧ St w wr gW)) (fun x _ => n1 - (intOf x).toNat)
  case atStart => exact ⟨0, rfl, Nat.zero_le _, HI1x⟩
  case round =>
    clear HI1x
    obtain ⟨k, rfl, hk, HW⟩ := hrel
    have hbig : n1 ≤ 60 := by have := HN.out; have := HP.out.nc; have := HP.out.nt; have := HP.out.nh; omega
    by_cases hlt : k < n1
    · obtain ⟨x1, hx⟩ : ∃ x, t.cps[k]? = some x := ⟨_, List.getElem?_eq_getElem (by have := HN.out; omega)⟩
      obtain ⟨g4, c9, cur, e9, hcur, hBg, hget⟩ := rwo_get HO.out.1 cpC_len hx
      injection e9 with e9 e9n e9c
      subst e9
      clear e9n e9c
      have HCU : Hid (∀ W, St w W gW → Blk W g4 49 cur) := Lib.hid (fun W s => s.keep g4 _ _ (by decide) (by have := HG.out.2.2; omega) hcur)
      have HGT := Lib.hid (fun j u hu => hget k x1 j u hx hu)
      have HG4 : Hid (g4 ≠ gW) := Lib.hid (by have := HG.out.2.2; omega)
      have HXM := Lib.hid (And.intro hx hlt)
      have hxb := HP.out.cps x1 (List.mem_of_getElem? hx)
      obtain ⟨f0, hf0⟩ : ∃ n : Nat, x1.fl = (n : Int) := ⟨x1.fl.toNat, by omega⟩
      obtain ⟨f1, hf1⟩ : ∃ n : Nat, x1.dy = (n : Int) := ⟨x1.dy.toNat, by omega⟩
      obtain ⟨f2, hf2⟩ : ∃ n : Nat, x1.va = (n : Int) := ⟨x1.va.toNat, by omega⟩
      obtain ⟨f3, hf3⟩ : ∃ n : Nat, x1.st = (n : Int) := ⟨x1.st.toNat, by omega⟩
      obtain ⟨f4, hf4⟩ : ∃ n : Nat, x1.ho = (n : Int) := ⟨x1.ho.toNat, by omega⟩
      have HXB := Lib.hid hxb
      have HXN := Lib.hid (show x1.fl = (f0 : Int) ∧ x1.dy = (f1 : Int) ∧ x1.va = (f2 : Int) ∧ x1.st = (f3 : Int) ∧ x1.ho = (f4 : Int) from ⟨hf0, hf1, hf2, hf3, hf4⟩)
      have hz1 : wr.cell? ⟨gP, 3, none⟩ = some (.slice (some ⟨g4, 0, none⟩) n1 c1) := cp_cell (HBP.out _ HW.out.2) 3 rfl
      have hk0 : (0 : Int) ≤ (k : Int) := by omega
      have hkm : (k : Int) < (n1 : Int) := by omega
      clear hx hlt hxb hcur hBg hget hf0 hf1 hf2 hf3 hf4
      have HV0 : Hid ((WP wr gW (LB1 ++ ((t.cps.take k).map cpBy).flatten) ∧ (LB1 ++ ((t.cps.take k).map cpBy).flatten).length ≤ 90000) ∧ St w wr gW) := Lib.hid ⟨⟨HW.out.1, by rw [List.length_append]; have h6 := flat_le cpBy 25 cpBy_len (t.cps.take k); have h7 : (t.cps.take k).length ≤ k := (by rw [List.length_take]; omega); have := HK1.out; have h8 : (t.cps.take k).length * 25 ≤ 60 * 25 := Nat.mul_le_mul_right _ (by omega); omega⟩, HW.out.2⟩
      go_wp2_with fail
      clear hz1 hk0 hkm
      refine (pwhole_i HV0.out.1.1 (HCU.out _ HV0.out.2) (by decide) HG4.out (by have h5 := HGT.out 0 (.int .i64 x1.fl) rfl; rw [HXN.out.1] at h5; exact h5) 2 (by have := HXB.out; have := HXN.out; unfold u64B at *; omega) (by have := HXB.out; have := HXN.out; unfold u64B at *; unfold numOk; simp; try omega) (by have := HV0.out.1.2; omega)).mono ?_
      rintro e v8 ⟨rfl, h1, h2⟩
      have H8 : Hid ((WP v8 gW ((LB1 ++ ((t.cps.take k).map cpBy).flatten) ++ be f0 2) ∧ ((LB1 ++ ((t.cps.take k).map cpBy).flatten) ++ be f0 2).length ≤ 90002) ∧ St w v8 gW) := Lib.hid ⟨⟨h1, by rw [List.length_append, be_len]; have := HV0.out.1.2; omega⟩, HV0.out.2.trans h2⟩
      clear h1 h2
      go_wp2_with fail
      refine (pwhole_i H8.out.1.1 (HCU.out _ H8.out.2) (by decide) HG4.out (by have h5 := HGT.out 1 (.int .i64 x1.dy) rfl; rw [HXN.out.2.1] at h5; exact h5) 4 (by have := HXB.out; have := HXN.out; unfold u64B at *; omega) (by have := HXB.out; have := HXN.out; unfold u64B at *; unfold numOk; simp; try omega) (by have := H8.out.1.2; omega)).mono ?_
      rintro e v9 ⟨rfl, h1, h2⟩
      have H9 : Hid ((WP v9 gW (((LB1 ++ ((t.cps.take k).map cpBy).flatten) ++ be f0 2) ++ be f1 4) ∧ (((LB1 ++ ((t.cps.take k).map cpBy).flatten) ++ be f0 2) ++ be f1 4).length ≤ 90006) ∧ St w v9 gW) := Lib.hid ⟨⟨h1, by rw [List.length_append, be_len]; have := H8.out.1.2; omega⟩, H8.out.2.trans h2⟩
      clear h1 h2
      go_wp2_with fail
      refine (pwhole_l H9.out.1.1 (HCU.out _ H9.out.2) (by decide) HG4.out (by have h5 := HGT.out 2 (.int .i64 x1.va) rfl; rw [HXN.out.2.2.1] at h5; exact h5) 8 (by have := HXB.out; have := HXN.out; unfold u64B at *; omega) (by have := HXB.out; have := HXN.out; unfold u64B at *; unfold numOk; simp; try omega) (by have := H9.out.1.2; omega)).mono ?_
      rintro e v10 ⟨rfl, h1, h2⟩
      have H10 : Hid ((WP v10 gW ((((LB1 ++ ((t.cps.take k).map cpBy).flatten) ++ be f0 2) ++ be f1 4) ++ be f2 8) ∧ ((((LB1 ++ ((t.cps.take k).map cpBy).flatten) ++ be f0 2) ++ be f1 4) ++ be f2 8).length ≤ 90014) ∧ St w v10 gW) := Lib.hid ⟨⟨h1, by rw [List.length_append, be_len]; have := H9.out.1.2; omega⟩, H9.out.2.trans h2⟩
      clear h1 h2
      go_wp2_with fail
      refine (pwhole_s H10.out.1.1 (HCU.out _ H10.out.2) (by decide) HG4.out (by have h5 := HGT.out 3 (.int .i64 x1.st) rfl; rw [HXN.out.2.2.2.1] at h5; exact h5) 1 (by have := HXB.out; have := HXN.out; unfold u64B at *; omega) (by have := HXB.out; have := HXN.out; unfold u64B at *; unfold numOk; simp; try omega) (by have := H10.out.1.2; omega)).mono ?_
      rintro e v11 ⟨rfl, h1, h2⟩
      have H11 : Hid ((WP v11 gW (((((LB1 ++ ((t.cps.take k).map cpBy).flatten) ++ be f0 2) ++ be f1 4) ++ be f2 8) ++ be f3 1) ∧ (((((LB1 ++ ((t.cps.take k).map cpBy).flatten) ++ be f0 2) ++ be f1 4) ++ be f2 8) ++ be f3 1).length ≤ 90015) ∧ St w v11 gW) := Lib.hid ⟨⟨h1, by rw [List.length_append, be_len]; have := H10.out.1.2; omega⟩, H10.out.2.trans h2⟩
      clear h1 h2
      go_wp2_with fail
      refine (pwhole_i H11.out.1.1 (HCU.out _ H11.out.2) (by decide) HG4.out (by have h5 := HGT.out 4 (.int .i64 x1.ho) rfl; rw [HXN.out.2.2.2.2] at h5; exact h5) 2 (by have := HXB.out; have := HXN.out; unfold u64B at *; omega) (by have := HXB.out; have := HXN.out; unfold u64B at *; unfold numOk; simp; try omega) (by have := H11.out.1.2; omega)).mono ?_
      rintro e v12 ⟨rfl, h1, h2⟩
      have H12 : Hid ((WP v12 gW ((((((LB1 ++ ((t.cps.take k).map cpBy).flatten) ++ be f0 2) ++ be f1 4) ++ be f2 8) ++ be f3 1) ++ be f4 2) ∧ ((((((LB1 ++ ((t.cps.take k).map cpBy).flatten) ++ be f0 2) ++ be f1 4) ++ be f2 8) ++ be f3 1) ++ be f4 2).length ≤ 90017) ∧ St w v12 gW) := Lib.hid ⟨⟨h1, by rw [List.length_append, be_len]; have := H11.out.1.2; omega⟩, H11.out.2.trans h2⟩
      clear h1 h2
      go_wp2_with fail
      refine (pwhole_u H12.out.1.1 (HCU.out _ H12.out.2) (by decide) HG4.out (HGT.out 5 (.int .u64 (x1.nx : Nat)) rfl) 8 (by have := HXB.out; have := HXN.out; unfold u64B at *; omega) (by have := HXB.out; have := HXN.out; unfold u64B at *; unfold numOk; simp; try omega) (by have := H12.out.1.2; omega)).mono ?_
      rintro e v13 ⟨rfl, h1, h2⟩
      have H13 : Hid ((WP v13 gW (((((((LB1 ++ ((t.cps.take k).map cpBy).flatten) ++ be f0 2) ++ be f1 4) ++ be f2 8) ++ be f3 1) ++ be f4 2) ++ be x1.nx 8) ∧ (((((((LB1 ++ ((t.cps.take k).map cpBy).flatten) ++ be f0 2) ++ be f1 4) ++ be f2 8) ++ be f3 1) ++ be f4 2) ++ be x1.nx 8).length ≤ 90025) ∧ St w v13 gW) := Lib.hid ⟨⟨h1, by rw [List.length_append, be_len]; have := H12.out.1.2; omega⟩, H12.out.2.trans h2⟩
      clear h1 h2
      go_wp2_with fail
      refine ⟨⟨k + 1, by go_num, by have := HXM.out.2; omega, Lib.hid ⟨?_, H13.out.2⟩⟩, ?_⟩
      · have h5 := H13.out.1.1
        have h6 := HXN.out
        have h7 : cpBy x1 = be f0 2 ++ be f1 4 ++ be f2 8 ++ be f3 1 ++ be f4 2 ++ be x1.nx 8 := by unfold cpBy; simp only [h6, Int.toNat_natCast]
        rw [take_succ' HXM.out.1, List.map_append, List.flatten_append, List.map_singleton, List.flatten_singleton, h7]
        simpa only [List.append_assoc] using h5
      · simp [intOf]
        have := HXM.out.2
        omega
    · obtain rfl : k = n1 := by omega
      have hkk : ¬ (k : Int) < (k : Int) := by omega
      obtain ⟨LE1, hLE1⟩ : ∃ L, L = LB1 ++ ((t.cps.take k).map cpBy).flatten := ⟨_, rfl⟩
      rw [← hLE1] at HW
      rw [List.take_of_length_le (by have := HN.out; omega)] at hLE1
      have HEE1 := Lib.hid hLE1
      have HW1 : Hid ((WP wr gW LE1 ∧ LE1.length ≤ 1551) ∧ St w wr gW) := Lib.hid ⟨⟨HW.out.1, by rw [hLE1, List.length_append]; have h6 := flat_le cpBy 25 cpBy_len t.cps; have := HK1.out; have := HN.out; have h8 : t.cps.length * 25 ≤ 60 * 25 := Nat.mul_le_mul_right _ (by omega); omega⟩, HW.out.2⟩
      clear hlt hk hbig hLE1 HW
      generalize wr = v14 at *
      go_wp2_with fail
      refine (pmany_tx HW1.out.1.1 (HBP.out _ HW1.out.2) (by decide) HG.out.1 (off := 4) (A := A2) (n := n2) (c := c2) rfl (by have := HN.out; have := HP.out.nc; have := HP.out.nt; have := HP.out.nh; omega) (by have := HN.out; omega) (by have := HW1.out.1.2; omega)).mono ?_
      rintro e v15 ⟨rfl, h1, h2⟩
      have H15 : Hid ((WP v15 gW (LE1 ++ be n2 1) ∧ (LE1 ++ be n2 1).length ≤ 1552) ∧ St w v15 gW) := Lib.hid ⟨⟨h1, by rw [List.length_append, be_len]; have := HW1.out.1.2; omega⟩, HW1.out.2.trans h2⟩
      clear h1 h2
      obtain ⟨LB2, hLB2⟩ : ∃ L, L = (LE1 ++ be n2 1) := ⟨_, rfl⟩
      have HE2 := Lib.hid hLB2
      rw [← hLB2] at H15
      clear hLB2
      have hz2 : v15.cell? ⟨gP, 4, none⟩ = some (.slice A2 n2 c2) := cp_cell (HBP.out _ H15.out.2) 4 rfl
      go_wp2_with fail
      clear hz2
      have HI2x : Hid (WP v15 gW (LB2 ++ ((t.txs.take 0).map txBy).flatten) ∧ St w v15 gW) := Lib.hid ⟨by simpa using H15.out.1.1, H15.out.2⟩
      have HK2 : Hid (LB2.length ≤ 1552) := Lib.hid H15.out.1.2
      go_loopw [105] (fun x wr => ∃ k : Nat, x = .int .i64 k ∧ k ≤ n2 ∧ Hid (WP wr gW (LB2 ++ ((t.txs.take k).map txBy).flatten) ∧ St w wr gW)) (fun x _ => n2 - (intOf x).toNat)
      case atStart => exact ⟨0, rfl, Nat.zero_le _, HI2x⟩
      case round =>
        clear HI2x
        obtain ⟨k, rfl, hk, HW⟩ := hrel
        have hbig : n2 ≤ 60 := by have := HN.out; have := HP.out.nc; have := HP.out.nt; have := HP.out.nh; omega
        by_cases hlt : k < n2
        · obtain ⟨x1, hx⟩ : ∃ x, t.txs[k]? = some x := ⟨_, List.getElem?_eq_getElem (by have := HN.out; omega)⟩
          obtain ⟨g4, c9, cur, e9, hcur, hBg, hget⟩ := rwo_get HO.out.2.1 txC_len hx
          injection e9 with e9 e9n e9c
          subst e9
          clear e9n e9c
          have HCU : Hid (∀ W, St w W gW → Blk W g4 62 cur) := Lib.hid (fun W s => s.keep g4 _ _ (by decide) (by have := HG.out.2.2; omega) hcur)
          have HGT := Lib.hid (fun j u hu => hget k x1 j u hx hu)
          have HG4 : Hid (g4 ≠ gW) := Lib.hid (by have := HG.out.2.2; omega)
          have HXM := Lib.hid (And.intro hx hlt)
          have hxb := HP.out.txs x1 (List.mem_of_getElem? hx)
          obtain ⟨f0, hf0⟩ : ∃ n : Nat, x1.co = (n : Int) := ⟨x1.co.toNat, by omega⟩
          obtain ⟨f1, hf1⟩ : ∃ n : Nat, x1.am = (n : Int) := ⟨x1.am.toNat, by omega⟩
          have HXB := Lib.hid hxb
          have HXN := Lib.hid (show x1.co = (f0 : Int) ∧ x1.am = (f1 : Int) from ⟨hf0, hf1⟩)
          have hz2 : wr.cell? ⟨gP, 4, none⟩ = some (.slice (some ⟨g4, 0, none⟩) n2 c2) := cp_cell (HBP.out _ HW.out.2) 4 rfl
          have hk0 : (0 : Int) ≤ (k : Int) := by omega
          have hkm : (k : Int) < (n2 : Int) := by omega
          clear hx hlt hxb hcur hBg hget hf0 hf1
          have HV0 : Hid ((WP wr gW (LB2 ++ ((t.txs.take k).map txBy).flatten) ∧ (LB2 ++ ((t.txs.take k).map txBy).flatten).length ≤ 90000) ∧ St w wr gW) := Lib.hid ⟨⟨HW.out.1, by rw [List.length_append]; have h6 := flat_le txBy 9 txBy_len (t.txs.take k); have h7 : (t.txs.take k).length ≤ k := (by rw [List.length_take]; omega); have := HK2.out; have h8 : (t.txs.take k).length * 9 ≤ 60 * 9 := Nat.mul_le_mul_right _ (by omega); omega⟩, HW.out.2⟩
          go_wp2_with fail
          clear hz2 hk0 hkm
          refine (pwhole_i HV0.out.1.1 (HCU.out _ HV0.out.2) (by decide) HG4.out (by have h5 := HGT.out 0 (.int .i64 x1.co) rfl; rw [HXN.out.1] at h5; exact h5) 1 (by have := HXB.out; have := HXN.out; unfold u64B at *; omega) (by have := HXB.out; have := HXN.out; unfold u64B at *; unfold numOk; simp; try omega) (by have := HV0.out.1.2; omega)).mono ?_
          rintro e v16 ⟨rfl, h1, h2⟩
          have H16 : Hid ((WP v16 gW ((LB2 ++ ((t.txs.take k).map txBy).flatten) ++ be f0 1) ∧ ((LB2 ++ ((t.txs.take k).map txBy).flatten) ++ be f0 1).length ≤ 90001) ∧ St w v16 gW) := Lib.hid ⟨⟨h1, by rw [List.length_append, be_len]; have := HV0.out.1.2; omega⟩, HV0.out.2.trans h2⟩
          clear h1 h2
          go_wp2_with fail
          refine (pwhole_l H16.out.1.1 (HCU.out _ H16.out.2) (by decide) HG4.out (by have h5 := HGT.out 1 (.int .i64 x1.am) rfl; rw [HXN.out.2] at h5; exact h5) 8 (by have := HXB.out; have := HXN.out; unfold u64B at *; omega) (by have := HXB.out; have := HXN.out; unfold u64B at *; unfold numOk; simp; try omega) (by have := H16.out.1.2; omega)).mono ?_
          rintro e v17 ⟨rfl, h1, h2⟩
          have H17 : Hid ((WP v17 gW (((LB2 ++ ((t.txs.take k).map txBy).flatten) ++ be f0 1) ++ be f1 8) ∧ (((LB2 ++ ((t.txs.take k).map txBy).flatten) ++ be f0 1) ++ be f1 8).length ≤ 90009) ∧ St w v17 gW) := Lib.hid ⟨⟨h1, by rw [List.length_append, be_len]; have := H16.out.1.2; omega⟩, H16.out.2.trans h2⟩
          clear h1 h2
          go_wp2_with fail
          refine ⟨⟨k + 1, by go_num, by have := HXM.out.2; omega, Lib.hid ⟨?_, H17.out.2⟩⟩, ?_⟩
          · have h5 := H17.out.1.1
            have h6 := HXN.out
            have h7 : txBy x1 = be f0 1 ++ be f1 8 := by unfold txBy; simp only [h6, Int.toNat_natCast]
            rw [take_succ' HXM.out.1, List.map_append, List.flatten_append, List.map_singleton, List.flatten_singleton, h7]
            simpa only [List.append_assoc] using h5
          · simp [intOf]
            have := HXM.out.2
            omega
        · obtain rfl : k = n2 := by omega
          have hkk : ¬ (k : Int) < (k : Int) := by omega
          obtain ⟨LE2, hLE2⟩ : ∃ L, L = LB2 ++ ((t.txs.take k).map txBy).flatten := ⟨_, rfl⟩
          rw [← hLE2] at HW
          rw [List.take_of_length_le (by have := HN.out; omega)] at hLE2
          have HEE2 := Lib.hid hLE2
          have HW2 : Hid ((WP wr gW LE2 ∧ LE2.length ≤ 2092) ∧ St w wr gW) := Lib.hid ⟨⟨HW.out.1, by rw [hLE2, List.length_append]; have h6 := flat_le txBy 9 txBy_len t.txs; have := HK2.out; have := HN.out; have h8 : t.txs.length * 9 ≤ 60 * 9 := Nat.mul_le_mul_right _ (by omega); omega⟩, HW.out.2⟩
          clear hlt hk hbig hLE2 HW
          generalize wr = v18 at *
          go_wp2_with fail
          refine (pwhole_i HW2.out.1.1 (HBP.out _ HW2.out.2) (by decide) (HG.out.1) (congrArg (fun z => some (Value.int .i64 z)) HI.out.2.2) 1 (by have := HI2.out; have := HP.out.num; have := HP.out.prv; have := HP.out.org; have := HP.out.fst; unfold u64B at *; omega) (by have := HI2.out; have := HP.out.num; have := HP.out.prv; have := HP.out.org; have := HP.out.fst; unfold u64B at *; unfold numOk; simp; try omega) (by have := HW2.out.1.2; omega)).mono ?_
          rintro e v19 ⟨rfl, h1, h2⟩
          have H19 : Hid ((WP v19 gW (LE2 ++ be pN 1) ∧ (LE2 ++ be pN 1).length ≤ 2093) ∧ St w v19 gW) := Lib.hid ⟨⟨h1, by rw [List.length_append, be_len]; have := HW2.out.1.2; omega⟩, HW2.out.2.trans h2⟩
          clear h1 h2
          go_wp2_with fail
          refine (pmany_ev H19.out.1.1 (HBP.out _ H19.out.2) (by decide) HG.out.1 (off := 10) (A := A3) (n := n3) (c := c3) rfl (by have := HN.out; have := HP.out.nc; have := HP.out.nt; have := HP.out.nh; omega) (by have := HN.out; omega) (by have := H19.out.1.2; omega)).mono ?_
          rintro e v20 ⟨rfl, h1, h2⟩
          have H20 : Hid ((WP v20 gW ((LE2 ++ be pN 1) ++ be n3 1) ∧ ((LE2 ++ be pN 1) ++ be n3 1).length ≤ 2094) ∧ St w v20 gW) := Lib.hid ⟨⟨h1, by rw [List.length_append, be_len]; have := H19.out.1.2; omega⟩, H19.out.2.trans h2⟩
          clear h1 h2
          obtain ⟨LB3, hLB3⟩ : ∃ L, L = ((LE2 ++ be pN 1) ++ be n3 1) := ⟨_, rfl⟩
          have HE3 := Lib.hid hLB3
          rw [← hLB3] at H20
          clear hLB3
          have hz3 : v20.cell? ⟨gP, 10, none⟩ = some (.slice A3 n3 c3) := cp_cell (HBP.out _ H20.out.2) 10 rfl
          go_wp2_with fail
          clear hz3
          have HI3x : Hid (WP v20 gW (LB3 ++ ((t.his.take 0).map evBy).flatten) ∧ St w v20 gW) := Lib.hid ⟨by simpa using H20.out.1.1, H20.out.2⟩
          have HK3 : Hid (LB3.length ≤ 2094) := Lib.hid H20.out.1.2
          go_loopw [140] (fun x wr => ∃ k : Nat, x = .int .i64 k ∧ k ≤ n3 ∧ Hid (WP wr gW (LB3 ++ ((t.his.take k).map evBy).flatten) ∧ St w wr gW)) (fun x _ => n3 - (intOf x).toNat)
          case atStart => exact ⟨0, rfl, Nat.zero_le _, HI3x⟩
          case round =>
            clear HI3x
            obtain ⟨k, rfl, hk, HW⟩ := hrel
            have hbig : n3 ≤ 60 := by have := HN.out; have := HP.out.nc; have := HP.out.nt; have := HP.out.nh; omega
            by_cases hlt : k < n3
            · obtain ⟨x1, hx⟩ : ∃ x, t.his[k]? = some x := ⟨_, List.getElem?_eq_getElem (by have := HN.out; omega)⟩
              obtain ⟨g4, c9, cur, e9, hcur, hBg, hget⟩ := rwo_get HO.out.2.2 evC_len hx
              injection e9 with e9 e9n e9c
              subst e9
              clear e9n e9c
              have HCU : Hid (∀ W, St w W gW → Blk W g4 51 cur) := Lib.hid (fun W s => s.keep g4 _ _ (by decide) (by have := HG.out.2.2; omega) hcur)
              have HGT := Lib.hid (fun j u hu => hget k x1 j u hx hu)
              have HG4 : Hid (g4 ≠ gW) := Lib.hid (by have := HG.out.2.2; omega)
              have HXM := Lib.hid (And.intro hx hlt)
              have hxb := HP.out.his x1 (List.mem_of_getElem? hx)
              obtain ⟨f0, hf0⟩ : ∃ n : Nat, x1.dy = (n : Int) := ⟨x1.dy.toNat, by omega⟩
              obtain ⟨f1, hf1⟩ : ∃ n : Nat, x1.cp = (n : Int) := ⟨x1.cp.toNat, by omega⟩
              obtain ⟨f2, hf2⟩ : ∃ n : Nat, x1.fr = (n : Int) := ⟨x1.fr.toNat, by omega⟩
              obtain ⟨f3, hf3⟩ : ∃ n : Nat, x1.tw = (n : Int) := ⟨x1.tw.toNat, by omega⟩
              have HXB := Lib.hid hxb
              have HXN := Lib.hid (show x1.dy = (f0 : Int) ∧ x1.cp = (f1 : Int) ∧ x1.fr = (f2 : Int) ∧ x1.tw = (f3 : Int) from ⟨hf0, hf1, hf2, hf3⟩)
              have hz3 : wr.cell? ⟨gP, 10, none⟩ = some (.slice (some ⟨g4, 0, none⟩) n3 c3) := cp_cell (HBP.out _ HW.out.2) 10 rfl
              have hk0 : (0 : Int) ≤ (k : Int) := by omega
              have hkm : (k : Int) < (n3 : Int) := by omega
              clear hx hlt hxb hcur hBg hget hf0 hf1 hf2 hf3
              have HV0 : Hid ((WP wr gW (LB3 ++ ((t.his.take k).map evBy).flatten) ∧ (LB3 ++ ((t.his.take k).map evBy).flatten).length ≤ 90000) ∧ St w wr gW) := Lib.hid ⟨⟨HW.out.1, by rw [List.length_append]; have h6 := flat_le evBy 7 evBy_len (t.his.take k); have h7 : (t.his.take k).length ≤ k := (by rw [List.length_take]; omega); have := HK3.out; have h8 : (t.his.take k).length * 7 ≤ 60 * 7 := Nat.mul_le_mul_right _ (by omega); omega⟩, HW.out.2⟩
              go_wp2_with fail
              clear hz3 hk0 hkm
              refine (pwhole_i HV0.out.1.1 (HCU.out _ HV0.out.2) (by decide) HG4.out (by have h5 := HGT.out 0 (.int .i64 x1.dy) rfl; rw [HXN.out.1] at h5; exact h5) 4 (by have := HXB.out; have := HXN.out; unfold u64B at *; omega) (by have := HXB.out; have := HXN.out; unfold u64B at *; unfold numOk; simp; try omega) (by have := HV0.out.1.2; omega)).mono ?_
              rintro e v21 ⟨rfl, h1, h2⟩
              have H21 : Hid ((WP v21 gW ((LB3 ++ ((t.his.take k).map evBy).flatten) ++ be f0 4) ∧ ((LB3 ++ ((t.his.take k).map evBy).flatten) ++ be f0 4).length ≤ 90004) ∧ St w v21 gW) := Lib.hid ⟨⟨h1, by rw [List.length_append, be_len]; have := HV0.out.1.2; omega⟩, HV0.out.2.trans h2⟩
              clear h1 h2
              go_wp2_with fail
              refine (pwhole_i H21.out.1.1 (HCU.out _ H21.out.2) (by decide) HG4.out (by have h5 := HGT.out 1 (.int .i64 x1.cp) rfl; rw [HXN.out.2.1] at h5; exact h5) 1 (by have := HXB.out; have := HXN.out; unfold u64B at *; omega) (by have := HXB.out; have := HXN.out; unfold u64B at *; unfold numOk; simp; try omega) (by have := H21.out.1.2; omega)).mono ?_
              rintro e v22 ⟨rfl, h1, h2⟩
              have H22 : Hid ((WP v22 gW (((LB3 ++ ((t.his.take k).map evBy).flatten) ++ be f0 4) ++ be f1 1) ∧ (((LB3 ++ ((t.his.take k).map evBy).flatten) ++ be f0 4) ++ be f1 1).length ≤ 90005) ∧ St w v22 gW) := Lib.hid ⟨⟨h1, by rw [List.length_append, be_len]; have := H21.out.1.2; omega⟩, H21.out.2.trans h2⟩
              clear h1 h2
              go_wp2_with fail
              refine (pwhole_s H22.out.1.1 (HCU.out _ H22.out.2) (by decide) HG4.out (by have h5 := HGT.out 2 (.int .i64 x1.fr) rfl; rw [HXN.out.2.2.1] at h5; exact h5) 1 (by have := HXB.out; have := HXN.out; unfold u64B at *; omega) (by have := HXB.out; have := HXN.out; unfold u64B at *; unfold numOk; simp; try omega) (by have := H22.out.1.2; omega)).mono ?_
              rintro e v23 ⟨rfl, h1, h2⟩
              have H23 : Hid ((WP v23 gW ((((LB3 ++ ((t.his.take k).map evBy).flatten) ++ be f0 4) ++ be f1 1) ++ be f2 1) ∧ ((((LB3 ++ ((t.his.take k).map evBy).flatten) ++ be f0 4) ++ be f1 1) ++ be f2 1).length ≤ 90006) ∧ St w v23 gW) := Lib.hid ⟨⟨h1, by rw [List.length_append, be_len]; have := H22.out.1.2; omega⟩, H22.out.2.trans h2⟩
              clear h1 h2
              go_wp2_with fail
              refine (pwhole_s H23.out.1.1 (HCU.out _ H23.out.2) (by decide) HG4.out (by have h5 := HGT.out 3 (.int .i64 x1.tw) rfl; rw [HXN.out.2.2.2] at h5; exact h5) 1 (by have := HXB.out; have := HXN.out; unfold u64B at *; omega) (by have := HXB.out; have := HXN.out; unfold u64B at *; unfold numOk; simp; try omega) (by have := H23.out.1.2; omega)).mono ?_
              rintro e v24 ⟨rfl, h1, h2⟩
              have H24 : Hid ((WP v24 gW (((((LB3 ++ ((t.his.take k).map evBy).flatten) ++ be f0 4) ++ be f1 1) ++ be f2 1) ++ be f3 1) ∧ (((((LB3 ++ ((t.his.take k).map evBy).flatten) ++ be f0 4) ++ be f1 1) ++ be f2 1) ++ be f3 1).length ≤ 90007) ∧ St w v24 gW) := Lib.hid ⟨⟨h1, by rw [List.length_append, be_len]; have := H23.out.1.2; omega⟩, H23.out.2.trans h2⟩
              clear h1 h2
              go_wp2_with fail
              refine ⟨⟨k + 1, by go_num, by have := HXM.out.2; omega, Lib.hid ⟨?_, H24.out.2⟩⟩, ?_⟩
              · have h5 := H24.out.1.1
                have h6 := HXN.out
                have h7 : evBy x1 = be f0 4 ++ be f1 1 ++ be f2 1 ++ be f3 1 := by unfold evBy; simp only [h6, Int.toNat_natCast]
                rw [take_succ' HXM.out.1, List.map_append, List.flatten_append, List.map_singleton, List.flatten_singleton, h7]
                simpa only [List.append_assoc] using h5
              · simp [intOf]
                have := HXM.out.2
                omega
            · obtain rfl : k = n3 := by omega
              have hkk : ¬ (k : Int) < (k : Int) := by omega
              obtain ⟨LE3, hLE3⟩ : ∃ L, L = LB3 ++ ((t.his.take k).map evBy).flatten := ⟨_, rfl⟩
              rw [← hLE3] at HW
              rw [List.take_of_length_le (by have := HN.out; omega)] at hLE3
              have HEE3 := Lib.hid hLE3
              have HW3 : Hid ((WP wr gW LE3 ∧ LE3.length ≤ 2514) ∧ St w wr gW) := Lib.hid ⟨⟨HW.out.1, by rw [hLE3, List.length_append]; have h6 := flat_le evBy 7 evBy_len t.his; have := HK3.out; have := HN.out; have h8 : t.his.length * 7 ≤ 60 * 7 := Nat.mul_le_mul_right _ (by omega); omega⟩, HW.out.2⟩
              clear hlt hk hbig hLE3 HW
              generalize wr = v25 at *
              go_wp2_with fail
              go_end0
              refine ⟨rfl, ?_, HW3.out.2⟩
              have h5 := HW3.out.1.1
              have e1 := HE1.out
              have e2 := HEE1.out
              have e3 := HE2.out
              have e4 := HEE2.out
              have e5 := HE3.out
              have e6 := HEE3.out
              have i1 := HI.out
              have i2 := HN.out
              have e : LE3 = bytesT t := by
                rw [e6, e5, e4, e3, e2, e1]
                unfold bytesT headBy
                rw [i1.1, i1.2.1, i1.2.2, ← i2.1.1, ← i2.2.1.1, ← i2.2.2.1]
                simp only [Int.toNat_natCast, List.nil_append, List.append_assoc]
              rw [← e]
              exact h5
end Go.Proofs.Ytmopkfjnjbimnaa
