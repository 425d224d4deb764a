/- container/heap's up, Push and Pop, over any heap. -/
import Derived.Test.YtfonchobolhkoaaDoorFhe
namespace Go.Proofs.YtfonchobolhkoaaDoor
open Go.RowKit

section
variable {α : Type} {T : TypeId} {rv : Value} {lt : α → α → Bool} {d : α} {enc : α → Value} {At : World → List α → Prop}
set_option maxRecDepth 100000 in
set_option maxHeartbeats 4000000 in
theorem hup_any (hok : LessOk lt) (H : HeapV T rv lt d enc At) {w : World} {l : List α} (j : Nat) (hj : j < l.length) (hl : l.length ≤ 100000) (ha : At w l) (hu : UpF lt (fun k => l.getD k d) l.length j) :
    Calls Tryd.prog 41 #[.iface T rv, .int .i64 j] w fun e w' => e = .returned (.tuple #[]) ∧ ∃ l', At w' l' ∧ l'.Perm l ∧ HpF lt (fun k => l'.getD k d) l'.length := by
  have HR0 : Hid (At w l ∧ l.Perm l ∧ UpF lt (fun q => l.getD q d) l.length j ∧ j < l.length ∧ l.length ≤ 100000) := Lib.hid ⟨ha, List.Perm.refl _, hu, hj, hl⟩
  have H := Lib.hid H
  have HO := Lib.hid hok
  have hj9 : j ≤ 100000 := by omega
  clear ha hu hok hj hl
  go_enter Tryd.func41, Tryd.ntmps41
  go_wp2_with fail
  go_loopw [1] (fun x wr => ∃ (k : Nat) (lk : List α), x = .int .i64 k ∧ k ≤ 100000 ∧ Hid (At wr lk ∧ lk.Perm l ∧ UpF lt (fun q => lk.getD q d) lk.length k ∧ k < lk.length ∧ lk.length ≤ 100000)) (fun x _ => (intOf x).toNat)
  case atStart => exact ⟨j, l, rfl, hj9, HR0⟩
  case round =>
    obtain ⟨k, lk, rfl, hk, HR⟩ := hrel
    by_cases h0 : k = 0
    · subst h0
      have HR6 : Hid (At wr lk ∧ lk.Perm l ∧ HpF lt (fun q => lk.getD q d) lk.length) := Lib.hid ⟨HR.out.1, HR.out.2.1, HR.out.2.2.1.stop (fun q => absurd q (by omega))⟩
      go_wp2_with fail
      go_end0
      exact ⟨rfl, lk, HR6.out⟩
    · obtain ⟨y, rfl⟩ : ∃ y, k = y + 1 := ⟨k - 1, by omega⟩
      have hdi : ((y / 2 : Nat) : Int) = (y : Int) / 2 := rfl
      have hne : ((y : Int) / 2 == (y : Int) + 1) = false := by rw [beq_eq_false_iff_ne]; omega
      obtain ⟨x1, hx1⟩ : ∃ x, lk[y + 1]? = some x := ⟨_, List.getElem?_eq_getElem HR.out.2.2.2.1⟩
      obtain ⟨x2, hx2⟩ : ∃ x, lk[y / 2]? = some x := ⟨_, List.getElem?_eq_getElem (by have := HR.out.2.2.2.1; omega)⟩
      obtain ⟨gL, rL, hL, eL, hC1⟩ := H.out.less wr lk (y + 1) (y / 2) x1 x2 HR.out.1 hx1 hx2
      rw [hdi, show (((y + 1 : Nat)) : Int) = (y : Int) + 1 by omega] at hC1
      have HC1 := Lib.hid hC1
      have HX := Lib.hid (And.intro hx1 hx2)
      clear hC1 hx1 hx2 h0 hdi
      cases hlt : lt x1 x2 with
      | true =>
        rw [hlt] at HC1
        have HLT := Lib.hid hlt
        clear hlt
        go_wp2_with fail
        refine HC1.out.mono ?_
        rintro e w5 ⟨rfl, ha5⟩
        have hkl : y / 2 < lk.length := by have := HR.out.2.2.2.1; omega
        have hjl : y + 1 < lk.length := HR.out.2.2.2.1
        obtain ⟨gS, rS, hS, eS, hCS⟩ := H.out.swap w5 lk (y / 2) (y + 1) ha5 hkl hjl
        rw [show ((y / 2 : Nat) : Int) = (y : Int) / 2 from rfl, show (((y + 1 : Nat)) : Int) = (y : Int) + 1 by omega] at hCS
        have HCS := Lib.hid hCS
        clear hCS HC1 ha5 hL eL
        go_wp2_with fail
        refine HCS.out.mono ?_
        rintro e w6 ⟨rfl, ha6⟩
        have hlen6 : (swL d lk (y / 2) (y + 1)).length = lk.length := swL_len d lk (y / 2) (y + 1)
        have HR6 : Hid (At w6 (swL d lk (y / 2) (y + 1)) ∧ (swL d lk (y / 2) (y + 1)).Perm l ∧ UpF lt (fun q => (swL d lk (y / 2) (y + 1)).getD q d) (swL d lk (y / 2) (y + 1)).length (y / 2) ∧ y / 2 < (swL d lk (y / 2) (y + 1)).length ∧ (swL d lk (y / 2) (y + 1)).length ≤ 100000) := Lib.hid (by
          have hne : y / 2 ≠ y + 1 := by omega
          refine ⟨ha6, (swL_perm d hkl hjl hne).trans HR.out.2.1, ?_, by rw [hlen6]; exact hkl, by rw [hlen6]; exact HR.out.2.2.2.2⟩
          rw [swL_fun d hkl hjl hne, hlen6]
          refine HR.out.2.2.1.step HO.out (by omega) hjl (by omega) ?_
          show lt (lk.getD (y + 1) d) (lk.getD (y / 2) d) = true
          rw [getD_at HX.out.1, getD_at HX.out.2]
          exact HLT.out)
        clear ha6 HCS hS eS hlen6 hkl hjl
        go_wp2_with fail
        refine ⟨⟨y / 2, swL d lk (y / 2) (y + 1), by norm_cast, by omega, HR6⟩, ?_⟩
        simp only [intOf]
        omega
      | false =>
        rw [hlt] at HC1
        have HLT := Lib.hid hlt
        clear hlt
        go_wp2_with fail
        refine HC1.out.mono ?_
        rintro e w5 ⟨rfl, ha5⟩
        have HR6 : Hid (At w5 lk ∧ lk.Perm l ∧ HpF lt (fun q => lk.getD q d) lk.length) := Lib.hid ⟨ha5, HR.out.2.1, HR.out.2.2.1.stop (fun _ => by
          show lt (lk.getD (y + 1) d) (lk.getD ((y + 1 - 1) / 2) d) = false
          rw [show (y + 1 - 1) / 2 = y / 2 by omega, getD_at HX.out.1, getD_at HX.out.2]
          exact HLT.out)⟩
        clear ha5 HC1 hL eL
        go_wp2_with fail
        go_end0
        exact ⟨rfl, lk, HR6.out⟩
set_option maxRecDepth 100000 in
set_option maxHeartbeats 4000000 in
theorem hpush_any (hok : LessOk lt) (H : HeapV T rv lt d enc At) {w : World} {l : List α} (x : α) (hl : l.length < 100000) (ha : At w l) (hp : HpF lt (fun k => l.getD k d) l.length) :
    Calls Tryd.prog 29 #[.iface T rv, enc x] w fun e w' => e = .returned (.tuple #[]) ∧ ∃ l', At w' l' ∧ l'.Perm (x :: l) ∧ HpF lt (fun k => l'.getD k d) l'.length := by
  have hu : UpF lt (fun k => (l ++ [x]).getD k d) (l ++ [x]).length l.length := by
    have e1 : ∀ k, k < l.length → (l ++ [x]).getD k d = l.getD k d := fun k hk => by simp [List.getD_eq_getElem?_getD, List.getElem?_append_left hk]
    refine ⟨fun k h0 hk hne => ?_, fun k h0 hk hpk _ => ?_⟩
    · rw [List.length_append] at hk
      simp at hk
      simp only [e1 k (by omega), e1 ((k - 1) / 2) (by omega)]
      exact hp k h0 (by omega)
    · rw [List.length_append] at hk
      simp at hk
      omega
  obtain ⟨g1, r1, h1, e1, hC1⟩ := H.push w l x ha hl
  obtain ⟨m, hm⟩ : ∃ m, m = l.length := ⟨_, rfl⟩
  have hm9 : m ≤ 100000 := by omega
  have HL : Hid (∀ W, At W (l ++ [x]) → ∃ g r, Sem.run Tryd.prog (method 244 T rv "Len") W = .ok (g, r) W ∧ (∀ args w, Sem.run Tryd.prog (callFunc g args) w = .ok (.enter g args) w) ∧ Calls Tryd.prog g #[r] W fun e w' => e = .returned (.int .i64 ((m : Int) + 1)) ∧ At w' (l ++ [x])) := Lib.hid (fun W h => by
    have := H.len W (l ++ [x]) h
    rw [show (((l ++ [x]).length : Nat) : Int) = (m : Int) + 1 by simp [hm]] at this
    exact this)
  have HU : Hid (∀ W, At W (l ++ [x]) → Calls Tryd.prog 41 #[.iface T rv, .int .i64 m] W fun e w' => e = .returned (.tuple #[]) ∧ ∃ l', At w' l' ∧ l'.Perm (x :: l) ∧ HpF lt (fun k => l'.getD k d) l'.length) := Lib.hid (fun W h => by
    refine (hup_any hok H m (by rw [hm]; simp) (by simp; omega) h (by rw [hm]; exact hu)).mono ?_
    rintro e w' ⟨a, l', b, c, f⟩
    exact ⟨a, l', b, c.trans List.perm_append_comm, f⟩)
  have HC1 := Lib.hid hC1
  clear hC1 hu hp ha hl hok H hm
  go_enter Tryd.func29, Tryd.ntmps29
  go_wp2_with fail
  refine HC1.out.mono ?_
  rintro e w1 ⟨rfl, ha1⟩
  obtain ⟨g2, r2, h2, e2, hC2⟩ := HL.out w1 ha1
  have HC2 := Lib.hid hC2
  clear hC2 ha1 HC1 h1 e1
  go_wp2_with fail
  refine HC2.out.mono ?_
  rintro e w2 ⟨rfl, ha2⟩
  have HU2 := Lib.hid (HU.out w2 ha2)
  clear HU ha2 HC2 h2 e2 HL
  go_wp2_with fail
  refine HU2.out.mono ?_
  rintro e w3 ⟨rfl, ha3⟩
  have HA3 := Lib.hid ha3
  clear ha3
  go_wp2_with fail
  go_end0
  exact ⟨rfl, HA3.out⟩
theorem swL_self (d : α) {l : List α} {i : Nat} (hi : i < l.length) : swL d l i i = l := by
  unfold swL
  rw [List.set_set]
  apply List.ext_getElem?
  intro k
  by_cases h : i = k
  · subst h
    rw [List.getElem?_set_self hi, List.getD_eq_getElem?_getD, List.getElem?_eq_getElem hi]
    rfl
  · rw [List.getElem?_set_ne h]
set_option maxRecDepth 100000 in
set_option maxHeartbeats 4000000 in
theorem hpop_any (hok : LessOk lt) (H : HeapV T rv lt d enc At) {w : World} {l : List α} {n : Nat} (hn : l.length = n + 1) (hl : l.length ≤ 100000) (ha : At w l) (hp : HpF lt (fun k => l.getD k d) l.length) :
    Calls Tryd.prog 42 #[.iface T rv] w fun e w' => ∃ x l', e = .returned (enc x) ∧ At w' l' ∧ (x :: l').Perm l ∧ (∀ y ∈ l, lt y x = false) ∧ HpF lt (fun k => l'.getD k d) l'.length := by
  obtain ⟨x, hx⟩ : ∃ x, x = l.getD 0 d := ⟨_, rfl⟩
  obtain ⟨s, hs⟩ : ∃ s, s = swL d l 0 n := ⟨_, rfl⟩
  have hsl : s.length = n + 1 := by rw [hs, swL_len, hn]
  have hsp : s.Perm l := by
    rw [hs]
    by_cases h : n = 0
    · rw [h, swL_self d (by omega)]
    · exact swL_perm d (by omega) (by omega) (fun q => h q.symm)
  have hsn : s[n]? = some x := by
    rw [hs, swL, List.getElem?_set_self (by simp; omega), hx]
  have hsd : DnF lt (fun k => s.getD k d) n 0 0 := by
    have e1 : ∀ k, 0 < k → k < n → s.getD k d = l.getD k d := fun k h0 hk => by
      rw [hs, swL, List.getD_eq_getElem?_getD, List.getElem?_set_ne (by omega), List.getElem?_set_ne (by omega), ← List.getD_eq_getElem?_getD]
    refine ⟨fun k h0 hk _ hne => ?_, fun k _ _ _ h => absurd h (by omega)⟩
    simp only [e1 k h0 hk, e1 ((k - 1) / 2) (by omega) (by omega)]
    exact hp k h0 (by omega)
  have hmin : ∀ y ∈ l, lt y x = false := fun y hy => by
    obtain ⟨k, hk, hky⟩ := List.mem_iff_getElem.1 hy
    have := hp.root hok k hk
    rw [hx, ← hky]
    rw [show l.getD k d = l[k] by rw [List.getD_eq_getElem?_getD, List.getElem?_eq_getElem hk]; rfl] at this
    exact this
  obtain ⟨g1, r1, h1, e1, hC1⟩ := H.len w l ha
  rw [show ((l.length : Nat) : Int) = (n : Int) + 1 by omega] at hC1
  have HS : Hid (∀ W, At W l → ∃ g r, Sem.run Tryd.prog (method 244 T rv "Swap") W = .ok (g, r) W ∧ (∀ args w, Sem.run Tryd.prog (callFunc g args) w = .ok (.enter g args) w) ∧ Calls Tryd.prog g #[r, .int .i64 0, .int .i64 n] W fun e w' => e = .returned (.tuple #[]) ∧ At w' s) := Lib.hid (fun W h => by
    rw [hs]
    exact H.swap W l 0 n h (by omega) (by omega))
  have HD : Hid (∀ W, At W s → Calls Tryd.prog 48 #[.iface T rv, .int .i64 0, .int .i64 n] W fun e w' => RetB e ∧ ∃ l', At w' (l' ++ [x]) ∧ (x :: l').Perm l ∧ HpF lt (fun k => l'.getD k d) l'.length) := Lib.hid (fun W h => by
    refine (hdown_any hok H 0 n 0 (by omega) (by omega) (by omega) h (Nat.le_refl _) hsd).mono ?_
    rintro e w' ⟨a, l2, b, c, f, g⟩
    have hl2 : l2.length = n + 1 := by rw [c.length_eq, hsl]
    have h2n : l2[n]? = some x := by rw [g n (Nat.le_refl _), hsn]
    have hl3 : l2 = l2.take n ++ [x] := by
      have h := List.take_add_one (l := l2) (i := n)
      rw [h2n, List.take_of_length_le (by omega)] at h
      exact h
    have hlt : (l2.take n).length = n := by rw [List.length_take]; omega
    refine ⟨a, l2.take n, by rw [← hl3]; exact b, ?_, ?_⟩
    · refine (List.Perm.trans ?_ c).trans hsp
      conv => rhs; rw [hl3]
      exact (List.perm_append_comm (l₁ := l2.take n) (l₂ := [x])).symm
    · rw [hlt]
      intro k h0 hk
      have e2 : ∀ k, k < n → (l2.take n).getD k d = l2.getD k d := fun k hk => by rw [List.getD_eq_getElem?_getD, List.getElem?_take_of_lt hk, ← List.getD_eq_getElem?_getD]
      simp only [e2 k hk, e2 ((k - 1) / 2) (by omega)]
      exact f.all k h0 hk)
  have HP := Lib.hid (fun W l' (h : At W (l' ++ [x])) => H.pop W l' x h)
  have HM := Lib.hid hmin
  have HC1 := Lib.hid hC1
  have hn9 : n ≤ 100000 := by omega
  clear hC1 hmin hsd hsn hsp hsl hx hs hp ha hl hn H hok
  go_enter Tryd.func42, Tryd.ntmps42
  go_wp2_with fail
  refine HC1.out.mono ?_
  rintro e w1 ⟨rfl, ha1⟩
  obtain ⟨g2, r2, h2, e2, hC2⟩ := HS.out w1 ha1
  have HC2 := Lib.hid hC2
  clear hC2 ha1 HC1 h1 e1 HS
  go_wp2_with fail
  refine HC2.out.mono ?_
  rintro e w2 ⟨rfl, ha2⟩
  have HD2 := Lib.hid (HD.out w2 ha2)
  clear HD ha2 HC2 h2 e2
  go_wp2_with fail
  refine HD2.out.mono ?_
  rintro e w3 ⟨⟨b3, rfl⟩, l3, ha3, hp3, hh3⟩
  obtain ⟨g4, r4, h4, e4, hC4⟩ := HP.out w3 l3 ha3
  have HC4 := Lib.hid hC4
  have HH := Lib.hid (And.intro hp3 hh3)
  clear hC4 ha3 hp3 hh3 HD2 HP
  go_wp2_with fail
  refine HC4.out.mono ?_
  rintro e w4 ⟨rfl, ha4⟩
  have HA4 := Lib.hid ha4
  clear ha4 HC4 h4 e4
  go_wp2_with fail
  go_ret
  exact ⟨x, l3, rfl, HA4.out, HH.out.1, HM.out, HH.out.2⟩
end
end Go.Proofs.YtfonchobolhkoaaDoor
