/- couponref11.Deal. -/
import Derived.Test.YtfonchobolhkoaaDoorFap
namespace Go.Proofs.YtfonchobolhkoaaDoor
open Go.RowKit

abbrev upI (l : List Nat) : List Int := l.map (fun (n : Nat) => (n : Int))
theorem sumI_up (l : List Nat) : sumI (upI l) = (sumN l : Int) := by
  induction l with
  | nil => rfl
  | cons a l ih => simp only [sumI, upI, List.map_cons, List.foldr_cons, sumN_cons] at ih ⊢; omega
theorem sumN_snoc (l : List Nat) (z : Nat) : sumN (l ++ [z]) = sumN l + z := by rw [sumN_app]; simp
theorem sumN_take (l : List Nat) (k : Nat) : sumN (l.take k) ≤ sumN l := by
  have h := sumN_app (l.take k) (l.drop k)
  rw [List.take_append_drop] at h
  omega
theorem sumN_mem {l : List Nat} {x : Nat} (h : x ∈ l) : x ≤ sumN l := by
  induction l with
  | nil => cases h
  | cons a l ih =>
    rcases List.mem_cons.1 h with rfl | q
    · simp
    · have := ih q; simp; omega
theorem sumN_bd {l : List Nat} (h : ∀ x ∈ l, x ≤ 1000000000000) : sumN l ≤ l.length * 1000000000000 := by
  induction l with
  | nil => simp
  | cons a l ih =>
    have h1 := ih (fun z hz => h z (List.mem_cons_of_mem _ hz))
    have h2 := h a (List.mem_cons_self ..)
    simp only [sumN_cons, List.length_cons]
    omega
/-- Two lists of one's own, apart. -/
structure Rows2 (w wr : World) (s l : Value) (xs ys : List Int) : Prop where
  rs : RowI wr w.heap.size s xs
  rl : RowI wr w.heap.size l ys
  ap : ∀ j, s.ownBlock = some j → l.ownBlock ≠ some j
  fr : Fr (fun _ => False) w wr
theorem Rows2.keep {w wr w' : World} {s l : Value} {xs ys : List Int} (h : Rows2 w wr s l xs ys) (f : Fr (fun _ => False) wr w') : Rows2 w w' s l xs ys := ⟨h.rs.keep0 f, h.rl.keep0 f, h.ap, h.fr.trans f (fun _ _ q => q)⟩
theorem Rows2.swap {w wr : World} {s l : Value} {xs ys : List Int} (h : Rows2 w wr s l xs ys) : Rows2 w wr l s ys xs := ⟨h.rl, h.rs, fun j h1 h2 => h.ap j h2 h1, h.fr⟩
theorem RowI.blk_lt {w : World} {B k : Nat} {v : Value} {l : List Int} (h : RowI w B v l) (hk : v.ownBlock = some k) : k < w.heap.size := by
  obtain ⟨-, h | ⟨b, c, cs, rfl, _, hg, -⟩⟩ := h
  · obtain ⟨rfl, -⟩ := h
    cases hk
  · injection hk with hk
    subst hk
    exact (Array.getElem?_eq_some_iff.1 hg).1
/-- One number behind the first list. -/
theorem Rows2.push {w wr w3 : World} {s l v3 : Value} {xs ys : List Int} {u : Int} (h : Rows2 w wr s l xs ys) (h3 : RowI w3 w.heap.size v3 (xs ++ [u])) (hg : (wr.alloc (.cells #[.int .i64 u] 2)).grownBy w3 s.ownBlock)
    (hat : v3.ownBlock = s.ownBlock ∨ v3.ownBlock = some (wr.alloc (.cells #[.int .i64 u] 2)).heap.size) : Rows2 w w3 v3 l (xs ++ [u]) ys := by
  have fa : Fr (fun _ => False) wr (wr.alloc (.cells #[.int .i64 u] 2)) := (Fr.refl _ wr).alloc _
  have f3 : Fr (fun k => s.ownBlock = some k) wr w3 := (fa.mono (fun _ _ q => q.elim)).grown hg (fun k hk => .inl hk)
  refine ⟨h3, h.rl.keep f3 (fun k hk q => h.ap k q hk), fun j h1 h2 => ?_, h.fr.trans f3 (fun i hi q => by have := h.rs.low q; omega)⟩
  rcases hat with q | q
  · exact h.ap j (q ▸ h1) h2
  · rw [h1] at q
    injection q with q
    have := h.rl.blk_lt h2
    simp at q
    omega
theorem zip_set {α β γ : Type} (f : α → β → γ) : ∀ (l : List α) (T : List β) (i : Nat) (x : α) (b : β), l[i]? = some x → List.zipWith f l (T.set i b) = (List.zipWith f l T).set i (f x b)
  | [], _, i, x, b, h => by simp at h
  | _ :: _, [], i, x, b, h => by simp
  | a :: l, c :: T, 0, x, b, h => by
    have : a = x := by simpa using h
    subst this
    simp
  | a :: l, c :: T, i + 1, x, b, h => by
    have := zip_set f l T i x b (by simpa using h)
    simp [this]
theorem set_shares {qn : List Nat} {T : List Bool} {i x : Nat} (hq : qn[i]? = some x) : upI (sharesOf qn (T.set i true)) = (upI (sharesOf qn T)).set i ((x : Int) + 1) := by
  unfold upI sharesOf
  rw [zip_set _ qn T i x true hq, List.map_set]
  simp
theorem set_mask {l : List Nat} {T : List Bool} {i x : Nat} (hq : l[i]? = some x) : mask l (T.set i true) = (mask l T).set i (-1) := by
  unfold mask
  rw [zip_set _ l T i x true hq]
  rfl
theorem shares_false {qn : List Nat} {T : List Bool} {i x : Nat} (hq : qn[i]? = some x) (hT : T[i]? = some false) : (upI (sharesOf qn T))[i]? = some (x : Int) := by
  unfold upI sharesOf
  rw [List.getElem?_map, List.getElem?_zipWith, hq, hT]
  rfl
theorem shares_none : ∀ (qn : List Nat), sharesOf qn (List.replicate qn.length false) = qn
  | [] => rfl
  | a :: qn => by
    have := shares_none qn
    simp only [sharesOf, List.length_cons, List.replicate_succ, List.zipWith_cons_cons] at this ⊢
    rw [this]
    simp
theorem mask_none : ∀ (l : List Nat), mask l (List.replicate l.length false) = upI l
  | [] => rfl
  | a :: l => by
    have := mask_none l
    simp only [mask, upI, List.length_cons, List.replicate_succ, List.zipWith_cons_cons, List.map_cons] at this ⊢
    rw [this]
    simp
set_option maxRecDepth 100000 in
set_option maxHeartbeats 4000000 in
theorem rdeal_any {w : World} {v : Value} {ws : List Nat} (a : Nat) (hv : IntsAt w v (upI ws)) (hl : ws.length ≤ 64) (hws : ∀ x ∈ ws, x ≤ 1000000000000) (hS : 0 < sumN ws) (ha : a ≤ 1000000000000) :
    Calls Tryd.prog 15 #[.int .i64 a, v] w fun e w' => ∃ v', e = .returned v' ∧ IntsAt w' v' (upI (dealL a ws)) ∧ Fr (fun _ => False) w w' := by
  have hS2 := sumN_bd hws
  obtain ⟨S, hSe⟩ : ∃ S, S = sumN ws := ⟨_, rfl⟩
  obtain ⟨m, hm⟩ : ∃ m, m = ws.length := ⟨_, rfl⟩
  have HTG := Lib.hid (rtog_any hv (by simp; omega) (fun z hz => by
    obtain ⟨x, hx, rfl⟩ := List.mem_map.1 hz
    have := hws x hx
    omega))
  rw [sumI_up, ← hSe] at HTG
  obtain ⟨A, c1, rfl, hc1, hA⟩ := hv
  obtain ⟨qn, hqn⟩ : ∃ qn, qn = qL a S ws := ⟨_, rfl⟩
  obtain ⟨rn, hrn⟩ : ∃ rn, rn = rL a S ws := ⟨_, rfl⟩
  have hml : (upI ws).length = m := by simp [hm]
  rw [hml] at HTG ⊢
  rw [← hSe, ← hm] at hS2
  rw [← hSe] at hS
  have HP : Hid (∀ (k x : Nat) (W : World), ws[k]? = some x → Calls Tryd.prog 17 #[.int .i64 a, .int .i64 x, .int .i64 S] W fun e w' => ∃ q r : Nat, qn[k]? = some q ∧ rn[k]? = some r ∧ e = .returned (.tuple #[.int .i64 q, .int .i64 r]) ∧ Fr (fun _ => False) W w') := Lib.hid (fun k x W hx => by
    refine (rpart_any a x S (by omega) (by rw [hSe]; exact sumN_mem (List.mem_of_getElem? hx)) hS (by omega) W).mono ?_
    rintro e w' ⟨rfl, hf⟩
    exact ⟨_, _, by rw [hqn]; simp [qL, hx], by rw [hrn]; simp [rL, hx], rfl, hf⟩)
  have hqs := (left_eq (a := a) (ws := ws) (by omega)).1
  have hlf := left_lt (a := a) (ws := ws) (by omega)
  rw [← hSe, ← hqn] at hqs
  have HQ : Hid (∀ k x, qn[k]? = some x → sumN (qn.take (k + 1)) = sumN (qn.take k) + x ∧ sumN (qn.take (k + 1)) ≤ a) := Lib.hid (fun k x hx => by
    have e : qn.take (k + 1) = qn.take k ++ [x] := by rw [List.take_add_one, hx]; rfl
    have := sumN_take qn (k + 1)
    exact ⟨by rw [e, sumN_snoc], by omega⟩)
  have HD : Hid (∀ t, t ≤ m → Fair rn (grT rn t) t) := Lib.hid (fun t ht => gr_fair rn t (by rw [hrn, rL_len, ← hm]; exact ht))
  have HE : Hid (dealL a ws = sharesOf qn (grT rn (leftOf a ws)) ∧ leftOf a ws < m ∧ sumN qn + leftOf a ws = a ∧ qn.length = m ∧ rn.length = m) := Lib.hid ⟨by unfold dealL dealT; rw [hqn, hrn, ← hSe], by omega, hqs, by rw [hqn, qL_len, hm], by rw [hrn, rL_len, hm]⟩
  have H0 := Lib.hid (And.intro hA (And.intro hm hws))
  have hm9 : m ≤ 64 := by omega
  have hai : (a : Int) ≤ 1000000000000 := by omega
  clear hA hm hws hS hS2 hl ha hSe hqn hrn hml hqs hlf hc1
  go_enter Tryd.func15, Tryd.ntmps15
  go_wp2_with fail
  refine HTG.out.mono ?_
  rintro e w1 ⟨rfl, rfl⟩
  clear HTG
  go_wp2_with fail
  go_loopw [6, 7, 8, 9] (fun s l t x wr => ∃ k u : Nat, x = .int .i64 k ∧ t = .int .i64 u ∧ k ≤ m ∧ Hid (u + sumN (qn.take k) = a) ∧ Hid (Rows2 w wr s l (upI (qn.take k)) (upI (rn.take k)))) (fun _ _ _ x _ => m - (intOf x).toNat)
  case atStart => exact ⟨0, a, rfl, rfl, Nat.zero_le _, Lib.hid rfl, Lib.hid ⟨RowI.nil _ _, RowI.nil _ _, fun j hj => by simp [Value.ownBlock] at hj, Fr.refl _ _⟩⟩
  case round =>
    obtain ⟨k, u, rfl, rfl, hk, HU, HR⟩ := hrel
    by_cases hlt : k < m
    · obtain ⟨hA, hm, hws⟩ := H0.out
      obtain ⟨x1, hx1⟩ : ∃ x1, ws[k]? = some x1 := ⟨_, List.getElem?_eq_getElem (by omega)⟩
      have hA' := hA (by simp; omega)
      obtain ⟨b1, o1, rfl, hcA⟩ := hA'
      have hcc := hcA k x1 (by simp [hx1])
      have hd1 : wr.cell? ⟨b1, o1 + k, none⟩ = some (.int .i64 (x1 : Nat)) := (HR.out.fr.cell (World.block_lt_of_cell? w _ hcc) (fun q => q)).trans hcc
      have HPk := Lib.hid (HP.out k x1 wr hx1)
      have hk0 : (0 : Int) ≤ (k : Int) := by omega
      have hkm : (k : Int) < (m : Int) := by omega
      have HLT := Lib.hid hlt
      clear hA hm hws hx1 hcA hcc hlt
      go_wp2_with fail
      refine HPk.out.mono ?_
      rintro e w2 ⟨q, r, hq, hr, rfl, f2⟩
      have hqq := HQ.out k q hq
      have hu2 : q ≤ u := by have := HU.out; omega
      have HR2 := Lib.hid (HR.out.keep f2)
      have htq : upI (qn.take k) ++ [(q : Int)] = upI (qn.take (k + 1)) := by rw [List.take_add_one, hq]; simp
      have htr : upI (rn.take k) ++ [(r : Int)] = upI (rn.take (k + 1)) := by rw [List.take_add_one, hr]; simp
      have HX := Lib.hid (And.intro htq (And.intro htr (And.intro hqq hu2)))
      have hsl := slice_of_i64 (q : Int) w2
      have hcu : (w2.alloc (.cells #[.int .i64 (q : Int)] 2)).cell? ⟨w2.heap.size, 0, none⟩ = some (.int .i64 (q : Int)) := by
        rw [(Blk.new w2 2 #[.int .i64 (q : Int)]).cell]
        rfl
      have fa : Fr (fun _ => False) w2 (w2.alloc (.cells #[.int .i64 (q : Int)] 2)) := (Fr.refl _ w2).alloc _
      have HA2 := Lib.hid (And.intro (HR2.out.rs.keep0 fa) (And.intro hcu (Nat.le_trans HR2.out.fr.size fa.size)))
      have hql : (upI (qn.take k)).length ≤ 100000 := by simp; omega
      have hrl : (upI (rn.take k)).length ≤ 100000 := by simp; omega
      have HLL := Lib.hid (And.intro hql hrl)
      have hui : (u : Int) ≤ 1000000000000 := by have := HU.out; omega
      have hqi : (q : Int) ≤ (u : Int) := by omega
      clear HPk hd1 f2 hq hr hqq hu2 htq htr hcu fa hql hrl
      go_wp2_with (first
        | (at_builtin; refine wpList_push_i64 rfl (.tmp 33) (.tmp 35) rfl rfl HA2.out.1 rfl HA2.out.2.1 HLL.out.1 HA2.out.2.2 ?_; intro v3 w3 ho3 hg3 hat3; have hR3 := HR2.out.push ho3 hg3 hat3; rw [HX.out.1] at hR3; have HR3 := Lib.hid hR3; have hsl3 := slice_of_i64 (r : Int) w3; have HA3 : Hid (RowI (w3.alloc (.cells #[.int .i64 (r : Int)] 2)) w.heap.size u7 (upI (rn.take k)) ∧ (w3.alloc (.cells #[.int .i64 (r : Int)] 2)).cell? ⟨w3.heap.size, 0, none⟩ = some (.int .i64 (r : Int)) ∧ w.heap.size ≤ (w3.alloc (.cells #[.int .i64 (r : Int)] 2)).heap.size) := Lib.hid ⟨HR3.out.rl.keep0 ((Fr.refl _ w3).alloc _), by rw [(Blk.new w3 2 #[.int .i64 (r : Int)]).cell]; rfl, Nat.le_trans HR3.out.fr.size ((Fr.refl (fun _ => False) w3).alloc _).size⟩; clear ho3 hg3 hat3 hR3 hsl)
        | (at_builtin; refine wpList_push_i64 rfl (.tmp 37) (.tmp 39) rfl rfl HA3.out.1 rfl HA3.out.2.1 HLL.out.2 HA3.out.2.2 ?_; intro v4 w4 ho4 hg4 hat4; have hR4 := (HR3.out.swap.push ho4 hg4 hat4).swap; rw [HX.out.2.1] at hR4; have HR4 := Lib.hid hR4; clear ho4 hg4 hat4 hR4 hsl3))
      refine ⟨⟨k + 1, u - q, by norm_cast, by congr 1; have := HX.out.2.2.2; omega, by have := HLT.out; omega, Lib.hid ?_, Lib.hid HR4.out⟩, ?_⟩
      · have h1 := HX.out.2.2.1.1
        have h2 := HX.out.2.2.2
        have h3 := HU.out
        omega
      · simp only [intOf]
        have := HLT.out
        omega
    · obtain rfl : k = m := by omega
      obtain ⟨he1, he2, he3, he4, he5⟩ := HE.out
      have hR := HR.out
      rw [List.take_of_length_le (show qn.length ≤ k by omega), List.take_of_length_le (show rn.length ≤ k by omega)] at hR
      have hu := HU.out
      rw [List.take_of_length_le (show qn.length ≤ k by omega)] at hu
      have hk1 : 1 ≤ k := by omega
      obtain ⟨z0, hz0⟩ : ∃ z0, (upI qn)[0]? = some z0 := ⟨_, List.getElem?_eq_getElem (by simp; omega)⟩
      obtain ⟨z9, hz9⟩ : ∃ z9, (upI rn)[0]? = some z9 := ⟨_, List.getElem?_eq_getElem (by simp; omega)⟩
      obtain ⟨gs, cs, rfl, _⟩ := hR.rs.cell hz0
      obtain ⟨gl, cl, rfl, _⟩ := hR.rl.cell hz9
      have hne : gs ≠ gl := fun e => hR.ap gs rfl (by rw [e]; rfl)
      have hql : (upI qn).length = k := by simp [he4]
      have hrl : (upI rn).length = k := by simp [he5]
      rw [hql, hrl] at hR
      rw [hql, hrl]
      obtain ⟨Lf, hLf⟩ : ∃ Lf, Lf = leftOf a ws := ⟨_, rfl⟩
      rw [← hLf] at he1 he2 he3
      obtain rfl : u = Lf := by omega
      have HR0 : Hid (Rows2 w wr (.slice (some ⟨gs, 0, none⟩) k cs) (.slice (some ⟨gl, 0, none⟩) k cl) (upI (sharesOf qn (grT rn 0))) (mask rn (grT rn 0))) := Lib.hid (by
        have e1 : grT rn 0 = List.replicate qn.length false := by simp [grT, he4, he5]
        have e2 : grT rn 0 = List.replicate rn.length false := rfl
        rw [e1, shares_none, ← e1, e2, mask_none]
        exact hR)
      have HLN := Lib.hid (And.intro he1 (And.intro he4 (And.intro he5 (And.intro he2 hne))))
      have hui : (u : Int) ≤ 64 := by omega
      clear he1 he2 he3 he4 he5 hR hu hz0 hz9 hql hrl hLf hlt HR HU hne
      go_wp2_with fail
      go_loopw [8] (fun x wr2 => ∃ t y : Nat, x = .int .i64 y ∧ Hid (t + y = u) ∧ y ≤ u ∧ Hid (Rows2 w wr2 (.slice (some ⟨gs, 0, none⟩) k cs) (.slice (some ⟨gl, 0, none⟩) k cl) (upI (sharesOf qn (grT rn t))) (mask rn (grT rn t)))) (fun x _ => (intOf x).toNat)
      case atStart => exact ⟨0, u, rfl, Lib.hid (by omega), Nat.le_refl _, HR0⟩
      case round =>
        obtain ⟨t, y, rfl, HT, hyu, HR⟩ := hrel
        by_cases hy : 0 < y
        · have hyi : (0 : Int) < (y : Int) := by omega
          have hyj : (y : Int) ≤ 64 := by omega
          have htm : t < k := by have := HT.out; have := HLN.out.2.2.2.1; omega
          obtain ⟨M, hM⟩ : ∃ M, M = mask rn (grT rn t) := ⟨_, rfl⟩
          have hst := step_fair (HD.out t (by omega)) (by have := HLN.out.2.2.1; omega)
          rw [← hM] at hst
          have hMl : M.length = k := by rw [hM, mask_len (HD.out t (by omega)).len, HLN.out.2.2.1]
          have HM := Lib.hid (And.intro hM (And.intro hst hMl))
          have HY := Lib.hid (And.intro hy htm)
          have hyd : decide (0 < y) = true := decide_eq_true hy
          clear hM hst hMl hy htm
          generalize wr = X at *
          go_wp2_with fail
          go_loopw [12, 13] (fun x i wr3 => ∃ j : Nat, i = .int .i64 j ∧ 1 ≤ j ∧ j ≤ k ∧ x = .int .i64 (am M j : Nat) ∧ Hid (Fr (fun _ => False) X wr3)) (fun _ i _ => k - (intOf i).toNat)
          case atStart => exact ⟨1, rfl, by omega, by omega, by simp [am], Lib.hid (Fr.refl _ _)⟩
          case round =>
            obtain ⟨j, rfl, hj1, hj, rfl, HF⟩ := hrel
            by_cases hjk : j < k
            · have haj : am M j < k := by
                obtain ⟨n, hn⟩ : ∃ n, j = n + 1 := ⟨j - 1, by omega⟩
                have := am_le M n
                rw [hn]
                omega
              obtain ⟨z1, hz1⟩ : ∃ z1, M[j]? = some z1 := ⟨_, List.getElem?_eq_getElem (by rw [HM.out.2.2]; omega)⟩
              obtain ⟨z2, hz2⟩ : ∃ z2, M[am M j]? = some z2 := ⟨_, List.getElem?_eq_getElem (by rw [HM.out.2.2]; omega)⟩
              have hrl := HR.out.rl
              rw [← HM.out.1] at hrl
              obtain ⟨g1, c2, e1, hd1⟩ := (hrl.keep0 HF.out).cell hz1
              obtain ⟨g2, c3, e2, hd2⟩ := (hrl.keep0 HF.out).cell hz2
              obtain rfl : gl = g1 := by injection e1 with a b; injection a with a; injection a
              obtain rfl : gl = g2 := by injection e2 with a b; injection a with a; injection a
              have hnx : am M (j + 1) = if z2 < z1 then j else am M j := by rw [am, getD_at hz1, getD_at hz2]
              obtain ⟨p, hp⟩ : ∃ p, p = am M j := ⟨_, rfl⟩
              rw [← hp] at hd2 haj hnx ⊢
              have hj0 : (0 : Int) ≤ (j : Int) := by omega
              have hjm : (j : Int) < (k : Int) := by omega
              have hp0 : (0 : Int) ≤ (p : Int) := by omega
              have hpm : (p : Int) < (k : Int) := by omega
              have HN := Lib.hid (And.intro hnx hjk)
              clear hz1 hz2 hrl e1 e2 hnx hp hjk haj
              by_cases hlz : z2 < z1
              · have hbb : decide (z2 < z1) = true := decide_eq_true hlz
                go_wp2_with fail
                go_region
                go_wp2_with fail
                refine ⟨⟨j + 1, by norm_cast, by omega, by have := HN.out.2; omega, ?_, Lib.hid HF.out.drew⟩, ?_⟩
                · rw [HN.out.1, if_pos hlz]
                · simp only [intOf]
                  have := HN.out.2
                  omega
              · have hbb : decide (z2 < z1) = false := decide_eq_false hlz
                go_wp2_with fail
                go_region
                go_wp2_with fail
                refine ⟨⟨j + 1, by norm_cast, by omega, by have := HN.out.2; omega, ?_, Lib.hid HF.out.drew⟩, ?_⟩
                · rw [HN.out.1, if_neg (by omega)]
                · simp only [intOf]
                  have := HN.out.2
                  omega
            · obtain rfl : j = k := by omega
              obtain ⟨hM, ⟨hst1, hst2, hst3⟩, hMl⟩ := HM.out
              rw [HLN.out.2.2.1] at hst2 hst3
              obtain ⟨p, hp⟩ : ∃ p, p = am M j := ⟨_, rfl⟩
              rw [← hp] at hst2 hst3 ⊢
              have hRw := HR.out.keep HF.out
              obtain ⟨x, hx⟩ : ∃ x, qn[p]? = some x := ⟨_, List.getElem?_eq_getElem (by rw [HLN.out.2.1]; exact hst2)⟩
              obtain ⟨x', hx'⟩ : ∃ x', rn[p]? = some x' := ⟨_, List.getElem?_eq_getElem (by rw [HLN.out.2.2.1]; exact hst2)⟩
              obtain ⟨g1, c2, e1, hd1⟩ := hRw.rs.cell (shares_false hx hst3)
              obtain rfl : gs = g1 := by injection e1 with a b; injection a with a; injection a
              obtain ⟨z7, hz7⟩ : ∃ z7, (mask rn (grT rn t))[p]? = some z7 := ⟨_, List.getElem?_eq_getElem (by rw [← hM, hMl]; exact hst2)⟩
              obtain ⟨g7, c7, e7, hd7⟩ := hRw.rl.cell hz7
              obtain rfl : gl = g7 := by injection e7 with a b; injection a with a; injection a
              have hz1 := hRw.rs.frozen (i := p)
              have hz2 := hRw.rl.frozen (i := p)
              have hxa : x ≤ a := by
                have h1 := sumN_mem (List.mem_of_getElem? hx)
                have h2 := (HQ.out p x hx).2
                have h3 := (HQ.out p x hx).1
                omega
              have hxi : (x : Int) ≤ 1000000000000 := by omega
              have hneg : ¬ gs = gl := HLN.out.2.2.2.2
              have hneg2 : ¬ gl = gs := fun e => hneg e.symm
              have hp0 : (0 : Int) ≤ (p : Int) := by omega
              have hpm : (p : Int) < (j : Int) := by omega
              have hstep : grT rn (t + 1) = (grT rn t).set p true := by
                show stepT rn (grT rn t) = _
                unfold stepT
                rw [← hM, HLN.out.2.2.1, ← hp]
              have hsl : p < (upI (sharesOf qn (grT rn t))).length := (List.getElem?_eq_some_iff.1 (shares_false hx hst3)).1
              have hll : p < (mask rn (grT rn t)).length := by rw [← hM, hMl]; exact hst2
              have hfin : Rows2 w ((wr.setCell ⟨gs, p, none⟩ (.int .i64 ((x : Int) + 1))).setCell ⟨gl, p, none⟩ (.int .i64 (-1))) (.slice (some ⟨gs, 0, none⟩) j cs) (.slice (some ⟨gl, 0, none⟩) j cl) (upI (sharesOf qn (grT rn (t + 1)))) (mask rn (grT rn (t + 1))) := by
                rw [hstep, set_shares hx, set_mask hx']
                have hne := HLN.out.2.2.2.2
                refine ⟨(hRw.rs.set hsl _).set' (by intro e; injection e with e; exact hne e) _, (hRw.rl.set' (by intro e; injection e with e; exact hne e.symm) _).set hll _, hRw.ap, ?_⟩
                have l1 := hRw.rs.low (k := gs) rfl
                have l2 := hRw.rl.low (k := gl) rfl
                exact (hRw.fr.setCell (p := ⟨gs, p, none⟩) (.inr l1) _).setCell (p := ⟨gl, p, none⟩) (.inr l2) _
              have HFI := Lib.hid hfin
              clear hM hst1 hst2 hst3 hMl hp hRw hx hx' e1 e7 hz7 hxa hstep hsl hll hfin hjk
              go_wp2_with fail
              refine ⟨⟨t + 1, y - 1, by congr 1; have := HY.out.1; omega, Lib.hid (by have := HT.out; have := HY.out.1; omega), by omega, HFI⟩, ?_⟩
              simp only [intOf]
              have := HY.out.1
              omega
        · obtain rfl : y = 0 := by omega
          have ht : t = u := by have := HT.out; omega
          have hI := HR.out.rs.ints
          have hL := HLN.out.1
          rw [ht, ← hL] at hI
          have HI := Lib.hid (And.intro hI HR.out.fr)
          clear hy ht hI hL
          go_wp2_with fail
          go_ret
          exact ⟨_, rfl, HI.out.1, HI.out.2⟩
end Go.Proofs.YtfonchobolhkoaaDoor
