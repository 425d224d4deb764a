/- Deal of the landed code, walked. -/
import Derived.Test.YtfonchobolhkoaaDoorFdh
namespace Go.Proofs.YtfonchobolhkoaaDoor
open Go.RowKit

theorem deal_start {w W1 : World} {m : Nat} (hr : RowI W1 w.heap.size (.slice (some ⟨w.heap.size, 0, none⟩) m m) (List.replicate m 0)) (hf : Fr (fun _ => False) w W1) (h1 : w.heap.size < W1.heap.size) (t : TypeId) :
    DlV w (W1.alloc (.cells #[.slice none 0 0] t)) w.heap.size W1.heap.size m (List.replicate m 0) [] := by
  have f : Fr (fun _ => False) W1 (W1.alloc (.cells #[.slice none 0 0] t)) := (Fr.refl _ W1).alloc _
  have hb := Blk.new W1 t #[.slice none 0 0]
  refine ⟨hr.keep0 f, by simp, ⟨by simp, .slice none 0 0, hb.cell 0, ?_, RowP.nil _ _, Fr.refl _ _⟩, fun k h0 hk => absurd hk (by simp), h1, Nat.le_refl _, hf.trans f (fun _ _ q => q)⟩
  have : (W1.alloc (.cells #[.slice none 0 0] t)).heap[W1.heap.size]? = some (.cells #[.slice none 0 0] t (0, 0)) := hb
  simp only [World.frozen?]
  rw [this]
  rfl
set_option maxRecDepth 100000 in
set_option maxHeartbeats 8000000 in
theorem pdeal_go {w : World} {v : Value} {zs : List Int} (a : Nat) (hv : IntsAt w v zs) (hl : zs.length ≤ 64) (hmw : mayW zs = true) (ha : a ≤ 1000000000000) :
    Calls Tryd.prog 11 #[.int .i64 a, v] w fun e w' => ∃ v', e = .returned (.tuple #[v', .int .i64 0]) ∧ IntsAt w' v' (upI (dealL a (zs.map Int.toNat))) ∧ Fr (fun _ => False) w w' := by
  obtain ⟨k1, hws, hS⟩ := may_nats hmw
  have HWG := Lib.hid (pweigh_any hv (by omega))
  have hwe : weighE zs = 0 := by unfold weighE; rw [if_neg (by omega), if_neg (by rw [hmw]; simp)]
  have hwr : weighR zs = sumI zs := by unfold weighR; rw [hwe]; rfl
  rw [hwr, hwe] at HWG
  obtain ⟨ws, hwse⟩ : ∃ ws, ws = zs.map Int.toNat := ⟨_, rfl⟩
  rw [← hwse] at k1 hws hS ⊢
  have hwl : ws.length ≤ 64 := by rw [hwse, List.length_map]; exact hl
  rw [← k1] at hv HWG
  rw [sumI_up] at HWG
  have hS2 := sumN_bd hws
  obtain ⟨S, hSe⟩ : ∃ S, S = sumN ws := ⟨_, rfl⟩
  obtain ⟨m, hm⟩ : ∃ m, m = ws.length := ⟨_, rfl⟩
  rw [← hSe] at HWG
  obtain ⟨A, c1, rfl, hc1, hA⟩ := hv
  obtain ⟨qn, hqn⟩ : ∃ qn, qn = qL a S ws := ⟨_, rfl⟩
  obtain ⟨rn, hrn⟩ : ∃ rn, rn = rL a S ws := ⟨_, rfl⟩
  have hml : (upI ws).length = m := by simp [hm]
  rw [hml] at HWG ⊢
  rw [← hSe, ← hm] at hS2
  rw [← hSe] at hS
  have HP : Hid (∀ (k x : Nat) (W : World), ws[k]? = some x → Calls Tryd.prog 28 #[.int .i64 a, .int .i64 x, .int .i64 S] W fun e w' => ∃ q r : Nat, qn[k]? = some q ∧ rn[k]? = some r ∧ e = .returned (.tuple #[.int .i64 q, .int .u64 r]) ∧ Fr (fun _ => False) W w') := Lib.hid (fun k x W hx => by
    refine (round_any (a := a) (g := x) (all := S) ha (by rw [hSe]; exact sumN_mem (List.mem_of_getElem? hx)) hS (by omega) W).mono ?_
    rintro e w' ⟨rfl, hf⟩
    exact ⟨_, _, by rw [hqn]; simp [qL, hx], by rw [hrn]; simp [rL, hx], rfl, hf⟩)
  have hqs := (left_eq (a := a) (ws := ws) (by omega)).1
  have hlf := left_lt (a := a) (ws := ws) (by omega)
  have hfair := deal_fair (a := a) (ws := ws) (by omega)
  rw [← hSe, ← hqn] at hqs
  rw [← hSe, ← hrn] at hfair
  have HQ : Hid (∀ k x, qn[k]? = some x → sumN (qn.take (k + 1)) = sumN (qn.take k) + x ∧ sumN (qn.take (k + 1)) ≤ a) := Lib.hid (fun k x hx => by
    have e : qn.take (k + 1) = qn.take k ++ [x] := by rw [List.take_add_one, hx]; rfl
    have := sumN_take qn (k + 1)
    exact ⟨by rw [e, sumN_snoc], by omega⟩)
  have HE : Hid (dealL a ws = sharesOf qn (dealT a ws) ∧ Fair rn (dealT a ws) (leftOf a ws) ∧ leftOf a ws < m ∧ sumN qn + leftOf a ws = a ∧ qn.length = m ∧ rn.length = m) := Lib.hid ⟨by unfold dealL; rw [hqn, ← hSe], hfair, by omega, hqs, by rw [hqn, qL_len, hm], by rw [hrn, rL_len, hm]⟩
  have H0 := Lib.hid (And.intro hA (And.intro hm hws))
  have hm9 : m ≤ 64 := by omega
  have hai : (a : Int) ≤ 1000000000000 := by omega
  have HMO := Lib.hid (pmayo_any (a : Int))
  rw [show mayO (a : Int) = true from decide_eq_true ⟨by omega, by omega⟩] at HMO
  obtain ⟨W1, hmk, hrow, hfr⟩ := make_i64s w m (by omega)
  have hsz : w.heap.size < W1.heap.size := hrow.blk_lt rfl
  have HD := Lib.hid (deal_start hrow hfr hsz 51)
  clear hA hm hws hS hS2 hl ha hSe hqn hrn hml hqs hlf hc1 hfair hmw hwe hwr k1 hwse hwl hrow hfr
  go_enter Tryd.func11, Tryd.ntmps11
  go_wp2_with fail
  refine HWG.out.mono ?_
  rintro e w1 ⟨rfl, rfl⟩
  clear HWG
  go_wp2_with fail
  refine (HMO.out _).mono ?_
  rintro e w2 ⟨rfl, rfl⟩
  go_wp2_with fail
  have HI := Lib.hid (fun W (f : Fr (fun _ => False) w2 W) => IntsAt.new0 (v := .slice A m c1) (zs := upI ws) (w := w2) ⟨A, c1, by rw [show (upI ws).length = m by have := H0.out.2.1; simp; omega], by simp [maxLen]; have := H0.out.2.1; omega, H0.out.1⟩ f)
  clear hmk hsz
  generalize w2.heap.size = gs at HD ⊢
  generalize W1.heap.size = p at HD ⊢
  have HPU := Lib.hid (fun W (h : List (Nat × Nat)) (x : Nat × Nat) (h1 : AtH W p W h) (h2 : HpF lossB (fun k => h.getD k (0, 0)) h.length) (h3 : h.length < 100000) => hpush_any lossB_ok (heapv W p) x h3 h1 h2)
  unfold heapP encL lsA lsB at HPU
  go_loopw [10, 33] (fun t x wr => ∃ k u : Nat, x = .int .i64 k ∧ t = .int .i64 u ∧ k ≤ m ∧ Hid (u + sumN (qn.take k) = a) ∧ ∃ h, Hid (DlV w2 wr gs p m (upI (qn.take k) ++ List.replicate (m - k) 0) h) ∧ Hid (h.Perm (rn.take k).zipIdx)) (fun _ x _ => m - (intOf x).toNat)
  case atStart => exact ⟨0, a, rfl, rfl, Nat.zero_le _, Lib.hid rfl, [], Lib.hid (by simpa [upI] using HD.out), Lib.hid (by simp)⟩
  case round =>
    clear HD
    obtain ⟨k, u, rfl, rfl, hk, HU, h, HD, HZ⟩ := hrel
    by_cases hlt : k < m
    · obtain ⟨x1, hx1⟩ : ∃ x, ws[k]? = some x := ⟨_, List.getElem?_eq_getElem (by have := H0.out.2.1; omega)⟩
      have hx2 : (upI ws)[k]? = some (x1 : Int) := by simp [upI, hx1]
      obtain ⟨A', c', e1, _, hAt⟩ := HI.out wr HD.out.fr
      injection e1 with e1 e2 e3
      subst e1 e3
      obtain ⟨b1, o1, rfl, hcA⟩ := hAt (by have := H0.out.2.1; simp; omega)
      have hd1 := hcA k (x1 : Int) hx2
      have HP1 := Lib.hid (fun W => HP.out k x1 W hx1)
      have hk0 : (0 : Int) ≤ (k : Int) := by omega
      have hkm : (k : Int) < (m : Int) := by omega
      have HLT := Lib.hid hlt
      clear hx1 hx2 hcA hAt e2 hlt
      go_wp2_with fail
      refine (HP1.out _).mono ?_
      rintro e w3 ⟨q, r, hq, hr, rfl, f3⟩
      have hD3 := HD.out.keep f3
      have HD3 := Lib.hid hD3
      have hfz : w3.frozen? ⟨gs, k, none⟩ = false := hD3.row.frozen
      obtain ⟨gq, cq, eq1, hcell⟩ := hD3.row.cell (i := k) (z := 0) (by
        have hl : (upI (qn.take k)).length = k := by
          have := (List.getElem?_eq_some_iff.1 hq).1
          simp [upI]
          omega
        rw [List.getElem?_append_right (by omega), hl, Nat.sub_self, List.getElem?_replicate, if_pos (by have := HLT.out; omega)])
      obtain rfl : gs = gq := by injection eq1 with a1 a2 a3; injection a1 with a1; injection a1 with a1
      have hqs := HQ.out k q hq
      have hu := HU.out
      have HU2 : Hid ((u - q) + sumN (qn.take (k + 1)) = a) := Lib.hid (by omega)
      have hus : wrap64 ((u : Int) - (q : Int)) = ((u - q : Nat) : Int) := by
        rw [show (u : Int) - (q : Int) = ((u - q : Nat) : Int) by omega]
        exact wrap64_id (by omega) (by omega)
      have HUS := Lib.hid hus
      have HQR := Lib.hid (And.intro hq hr)
      clear hD3 f3 eq1 hqs hu hus hq hr HD HP1 HU
      go_wp2_with fail
      have hs := HD3.out.set HLT.out (q : Int)
      rw [shares_set HLT.out HQR.out.1] at hs
      have hlen : h.length = k := by
        rw [HZ.out.length_eq]
        have := (List.getElem?_eq_some_iff.1 HQR.out.2).1
        simp
        omega
      refine (HPU.out _ h (r, k) hs.hp hs.heap (by omega)).mono ?_
      rintro e w4 ⟨rfl, h', ha', hpm', hh'⟩
      have HD4 := Lib.hid (hs.heapTo ha' hh')
      have HZ4 : Hid (h'.Perm (rn.take (k + 1)).zipIdx) := Lib.hid (by
        rw [zip_snoc HQR.out.2]
        refine hpm'.trans ?_
        refine (List.Perm.cons _ HZ.out).trans ?_
        exact (List.perm_append_singleton _ _).symm)
      clear hs hlen ha' hpm' hh' hcell hfz HD3
      go_wp2_with fail
      refine ⟨⟨k + 1, u - q, by go_num, by rw [HUS.out], by have := HLT.out; omega, HU2, h', HD4, HZ4⟩, ?_⟩
      simp only [intOf]
      have := HLT.out
      omega
    · obtain rfl : k = m := by omega
      have hall : qn.take k = qn := List.take_of_length_le (by rw [HE.out.2.2.2.2.1]; exact Nat.le_refl _)
      have hallr : rn.take k = rn := List.take_of_length_le (by rw [HE.out.2.2.2.2.2]; exact Nat.le_refl _)
      have hu := HU.out
      rw [hall] at hu
      have hM : u = leftOf a ws := by have := HE.out.2.2.2.1; omega
      have hh0 : HeapSt rn (List.replicate rn.length false) h := HeapSt.new (by have := HZ.out; rwa [hallr] at this)
      have hD0 := HD.out
      rw [hall, Nat.sub_self, List.replicate_zero, List.append_nil] at hD0
      have hD1 : DlV w2 wr gs p k (upI (sharesOf qn (List.replicate rn.length false))) h := by
        rw [show rn.length = qn.length by rw [HE.out.2.2.2.2.2, HE.out.2.2.2.2.1], shares_none]
        exact hD0
      have HD1 := Lib.hid hD1
      have HH0 := Lib.hid hh0
      have hub : u < k := by have := HE.out.2.2.1; omega
      have HM := Lib.hid hM
      have HNX := Lib.hid (fun W (h : List (Nat × Nat)) (n : Nat) (h1 : AtH W p W h) (h2 : HpF lossB (fun k => h.getD k (0, 0)) h.length) (h3 : h.length = n + 1) => next_any h1 h2 h3)
      clear hlt hall hallr hu hM hh0 hD0 hD1 HPU HP HI H0 HU HZ HD hk
      go_wp2_with fail
      go_loopw [61] (fun x wq => ∃ j : Nat, x = .int .i64 j ∧ j ≤ u ∧ ∃ T g, Hid (HeapSt rn T g ∧ T.count true = j) ∧ Hid (DlV w2 wq gs p k (upI (sharesOf qn T)) g)) (fun x _ => u - (intOf x).toNat)
      case atStart => exact ⟨0, rfl, Nat.zero_le _, _, h, Lib.hid ⟨HH0.out, by simp [List.count_replicate]⟩, HD1⟩
      case round =>
        clear HD1 HH0
        obtain ⟨j, rfl, hj, T, g, HS, HD⟩ := hrel
        by_cases hlt : j < u
        · obtain ⟨n, hn⟩ := heap_some HS.out.1 (by rw [HS.out.2, HE.out.2.2.2.2.2]; omega)
          have HN := Lib.hid (HNX.out _ g n HD.out.hp HD.out.heap hn)
          have HLT := Lib.hid hlt
          have hji : (j : Int) < (u : Int) := by omega
          have hj0 : (0 : Int) ≤ (j : Int) := by omega
          clear hlt hn
          go_wp2_with fail
          refine HN.out.mono ?_
          rintro e w3 ⟨⟨ls, pl⟩, g', rfl, ha', hpm', hmin', hh'⟩
          obtain ⟨hs1, hs2⟩ := HS.out.1.step hpm' hmin'
          have hplT := (List.getElem?_eq_some_iff.1 hs2).1
          rw [HS.out.1.len, HE.out.2.2.2.2.2] at hplT
          simp only at hplT hs1 hs2
          obtain ⟨y, hy⟩ : ∃ y, qn[pl]? = some y := ⟨_, List.getElem?_eq_getElem (by rw [HE.out.2.2.2.2.1]; exact hplT)⟩
          have hD3 := HD.out.heapTo ha' hh'
          obtain ⟨gq, cq, eq1, hcell⟩ := hD3.row.cell (i := pl) (shares_false hy hs2)
          obtain rfl : gs = gq := by injection eq1 with a1 a2 a3; injection a1 with a1; injection a1 with a1
          have hfz : w3.frozen? ⟨gs, pl, none⟩ = false := hD3.row.frozen
          have hcount := count_set T pl hs2
          have hset := hD3.set hplT ((y : Int) + 1)
          rw [← set_shares hy] at hset
          have HD3 := Lib.hid hset
          have HS3 := Lib.hid (And.intro hs1 (hcount.trans (by rw [HS.out.2])))
          have hyb := HQ.out pl y hy
          have hyi : (y : Int) ≤ 1000000000000 := by omega
          have hpl0 : (0 : Int) ≤ (pl : Int) := by omega
          have hplk : (pl : Int) < (k : Int) := by omega
          have hw : wrap64 ((y : Int) + 1) = (y : Int) + 1 := wrap64_id (by omega) (by omega)
          clear hs1 hs2 hplT hy hD3 hset hcount hyb eq1 ha' hpm' hmin' hh' HN HS HD
          go_wp2_with fail
          have := HLT.out
          refine ⟨⟨j + 1, by go_num, by omega, T.set pl true, g', HS3, HD3⟩, ?_⟩
          simp only [intOf]
          omega
        · obtain rfl : j = u := by omega
          have hfair := HS.out.1.fair HS.out.2
          rw [HM.out] at hfair
          have hTe : T = dealT a ws := hfair.uniq HE.out.2.1
          have hD := HD.out
          rw [hTe, ← HE.out.1] at hD
          have HR := Lib.hid (And.intro hD.row.ints hD.fr)
          have hji : ¬ (j : Int) < (j : Int) := by omega
          clear hlt hfair hTe hD HS HD HNX
          go_wp2_with fail
          go_ret2
          exact ⟨_, rfl, HR.out⟩
/-- Deal, whatever it is asked. -/
theorem pdeal_any {w : World} {v : Value} {zs : List Int} (a : Int) (ha0 : -9223372036854775808 ≤ a) (ha1 : a ≤ 9223372036854775807) (hv : IntsAt w v zs) (hl : zs.length ≤ 100000) :
    Calls Tryd.prog 11 #[.int .i64 a, v] w fun e w' => ∃ v', e = .returned (.tuple #[v', .int .i64 (dealE a zs : Nat)]) ∧ IntsAt w' v' (dealR a zs) ∧ Fr (fun _ => False) w w' := by
  by_cases hok : weighE zs = 0
  · have h64 : ¬ 64 < zs.length := fun h => by unfold weighE at hok; rw [if_pos h] at hok; omega
    have hmw : mayW zs = true := by
      unfold weighE at hok
      rw [if_neg h64] at hok
      split at hok
      · omega
      · rename_i h
        simpa using h
    by_cases hm : 0 ≤ a ∧ a ≤ 1000000000000
    · have e1 : dealE a zs = 0 := by unfold dealE; rw [if_neg h64, if_neg (by rw [hmw]; simp), if_pos hm]
      have e2 : dealR a zs = upI (dealL a.toNat (zs.map Int.toNat)) := by unfold dealR; rw [e1, if_pos rfl]
      rw [e1, e2]
      have h := pdeal_go a.toNat hv (by omega) hmw (by omega)
      rw [show ((a.toNat : Nat) : Int) = a by omega] at h
      exact h
    · have e1 : dealE a zs = 14 := by unfold dealE; rw [if_neg h64, if_neg (by rw [hmw]; simp), if_neg hm]
      have e2 : dealR a zs = [] := by unfold dealR; rw [e1]; rfl
      rw [e1, e2]
      have HWG := Lib.hid (pweigh_any hv hl)
      rw [hok] at HWG
      have HMO := Lib.hid (pmayo_any a)
      rw [show mayO a = false from decide_eq_false hm] at HMO
      obtain ⟨A, c, rfl, _⟩ := hv
      clear e1 e2 hm hmw h64 hok hl ha0 ha1
      go_enter Tryd.func11, Tryd.ntmps11
      go_wp2_with fail
      refine HWG.out.mono ?_
      rintro e w1 ⟨rfl, rfl⟩
      clear HWG
      go_wp2_with fail
      refine (HMO.out _).mono ?_
      rintro e w2 ⟨rfl, rfl⟩
      go_wp2_with fail
      go_ret2
      exact ⟨_, rfl, ⟨none, 0, rfl, by simp [maxLen], fun h => absurd h (by simp)⟩, Fr.refl _ _⟩
  · obtain ⟨E, hE⟩ : ∃ E, E = weighE zs := ⟨_, rfl⟩
    rw [← hE] at hok
    have e1 : dealE a zs = E := by
      rw [hE]
      rw [hE] at hok
      unfold weighE at hok ⊢
      unfold dealE
      split
      · rfl
      · split
        · rfl
        · rename_i h1 h2
          rw [if_neg h1, if_neg h2] at hok
          omega
    have e2 : dealR a zs = [] := by unfold dealR; rw [e1, if_neg hok]
    rw [e1, e2]
    have HWG := Lib.hid (pweigh_any hv hl)
    rw [← hE] at HWG
    have hne : ((E : Int) != 0) = true := by rw [bne_iff_ne]; omega
    obtain ⟨A, c, rfl, _⟩ := hv
    clear e1 e2 hE hl ha0 ha1 hok
    go_enter Tryd.func11, Tryd.ntmps11
    go_wp2_with fail
    refine HWG.out.mono ?_
    rintro e w1 ⟨rfl, rfl⟩
    clear HWG
    go_wp2_with fail
    go_ret2
    exact ⟨_, rfl, ⟨none, 0, rfl, by simp [maxLen], fun h => absurd h (by simp)⟩, Fr.refl _ _⟩
end Go.Proofs.YtfonchobolhkoaaDoor
