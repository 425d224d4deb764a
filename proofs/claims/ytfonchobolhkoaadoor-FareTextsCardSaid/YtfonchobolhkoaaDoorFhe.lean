/- container/heap's own functions, over any heap. -/
import Derived.Test.YtfonchobolhkoaaDoorFhq
namespace Go.Proofs.YtfonchobolhkoaaDoor
open Go.RowKit

/-- A method is found by its name in the dynamic type, and is a function that is entered. -/
def Mth (T : TypeId) (rv : Value) (name : String) (g : Nat) (r : Value) (W : World) : Prop :=
  Sem.run Tryd.prog (method 244 T rv name) W = .ok (g, r) W
def Ent (g : Nat) : Prop := ∀ args w, Sem.run Tryd.prog (callFunc g args) w = .ok (.enter g args) w
/-- What a heap's five methods do; At: what its memory is while it holds a list. -/
structure HeapV {α : Type} (T : TypeId) (rv : Value) (lt : α → α → Bool) (d : α) (enc : α → Value) (At : World → List α → Prop) : Prop where
  len : ∀ W l, At W l → ∃ g r, Sem.run Tryd.prog (method 244 T rv "Len") W = .ok (g, r) W ∧ (∀ args w, Sem.run Tryd.prog (callFunc g args) w = .ok (.enter g args) w) ∧ Calls Tryd.prog g #[r] W fun e w' => e = .returned (.int .i64 (l.length : Nat)) ∧ At w' l
  less : ∀ W l (i j : Nat) x y, At W l → l[i]? = some x → l[j]? = some y → ∃ g r, Sem.run Tryd.prog (method 244 T rv "Less") W = .ok (g, r) W ∧ (∀ args w, Sem.run Tryd.prog (callFunc g args) w = .ok (.enter g args) w) ∧ Calls Tryd.prog g #[r, .int .i64 i, .int .i64 j] W fun e w' => e = .returned (.bool (lt x y)) ∧ At w' l
  swap : ∀ W l (i j : Nat), At W l → i < l.length → j < l.length → ∃ g r, Sem.run Tryd.prog (method 244 T rv "Swap") W = .ok (g, r) W ∧ (∀ args w, Sem.run Tryd.prog (callFunc g args) w = .ok (.enter g args) w) ∧ Calls Tryd.prog g #[r, .int .i64 i, .int .i64 j] W fun e w' => e = .returned (.tuple #[]) ∧ At w' (swL d l i j)
  push : ∀ W l x, At W l → l.length < 100000 → ∃ g r, Sem.run Tryd.prog (method 244 T rv "Push") W = .ok (g, r) W ∧ (∀ args w, Sem.run Tryd.prog (callFunc g args) w = .ok (.enter g args) w) ∧ Calls Tryd.prog g #[r, enc x] W fun e w' => e = .returned (.tuple #[]) ∧ At w' (l ++ [x])
  pop : ∀ W l x, At W (l ++ [x]) → ∃ g r, Sem.run Tryd.prog (method 244 T rv "Pop") W = .ok (g, r) W ∧ (∀ args w, Sem.run Tryd.prog (callFunc g args) w = .ok (.enter g args) w) ∧ Calls Tryd.prog g #[r] W fun e w' => e = .returned (enc x) ∧ At w' l
def RetB (e : Ending) : Prop := ∃ b, e = .returned (.bool b)
section
variable {α : Type} {T : TypeId} {rv : Value} {lt : α → α → Bool} {d : α} {enc : α → Value} {At : World → List α → Prop}
set_option maxRecDepth 100000 in
set_option maxHeartbeats 4000000 in
theorem hdown_any (hok : LessOk lt) (H : HeapV T rv lt d enc At) {w : World} {l : List α} (i n c : Nat) (hi : i ≤ 100000) (hn : n ≤ l.length) (hl : l.length ≤ 100000) (ha : At w l) (hci : c ≤ i) (hd : DnF lt (fun k => l.getD k d) n c i) :
    Calls Tryd.prog 48 #[.iface T rv, .int .i64 i, .int .i64 n] w fun e w' => RetB e ∧ ∃ l', At w' l' ∧ l'.Perm l ∧ HpG lt (fun k => l'.getD k d) n c ∧ ∀ k, n ≤ k → l'[k]? = l[k]? := by
  have HR0 : Hid (At w l ∧ l.Perm l ∧ DnF lt (fun q => l.getD q d) n c i ∧ ∀ q, n ≤ q → l[q]? = l[q]?) := Lib.hid ⟨ha, List.Perm.refl _, hd, fun _ _ => rfl⟩
  have H := Lib.hid H
  have HB0 := Lib.hid (And.intro hok (And.intro hn hl))
  have hn9 : n ≤ 100000 := by omega
  have HC9 := Lib.hid hci
  clear ha hd hok hn hl hci
  go_enter Tryd.func48, Tryd.ntmps48
  go_wp2_with fail
  go_loopw [7] (fun x wr => ∃ (k : Nat) (lk : List α), x = .int .i64 k ∧ k ≤ 100000 ∧ Hid (At wr lk ∧ lk.Perm l ∧ DnF lt (fun q => lk.getD q d) n c k ∧ ∀ q, n ≤ q → lk[q]? = l[q]?) ∧ Hid (LessOk lt ∧ n ≤ lk.length ∧ lk.length ≤ 100000) ∧ Hid (c ≤ k)) (fun x _ => n - (intOf x).toNat)
  case atStart => exact ⟨i, l, rfl, hi, Lib.hid ⟨HR0.out.1, HR0.out.2.1, HR0.out.2.2.1, fun _ _ => rfl⟩, HB0, HC9⟩
  case round =>
    obtain ⟨k, lk, rfl, hk, HR, HB, HC0⟩ := hrel
    have hk0 : (0 : Int) ≤ (k : Int) := by omega
    have hk9 : (k : Int) ≤ 100000 := by omega
    have hge0 : ¬ (2 * (k : Int) + 1 < 0) := by omega
    by_cases h1 : 2 * k + 1 < n
    · have h1i : ¬ (n : Int) ≤ 2 * (k : Int) + 1 := by omega
      obtain ⟨x1, hx1⟩ : ∃ x, lk[2 * k + 1]? = some x := ⟨_, List.getElem?_eq_getElem (by have := HB.out.2.1; omega)⟩
      by_cases h2 : 2 * k + 2 < n
      · have h2i : 2 * (k : Int) + 1 + 1 < (n : Int) := by omega
        obtain ⟨x2, hx2⟩ : ∃ x, lk[2 * k + 2]? = some x := ⟨_, List.getElem?_eq_getElem (by have := HB.out.2.1; omega)⟩
        obtain ⟨gL, rL, hL, eL, hC1⟩ := H.out.less wr lk (2 * k + 2) (2 * k + 1) x2 x1 HR.out.1 hx2 hx1
        rw [show (((2 * k + 2 : Nat)) : Int) = 2 * (k : Int) + 1 + 1 by omega, show (((2 * k + 1 : Nat)) : Int) = 2 * (k : Int) + 1 by omega] at hC1
        have HC1 := Lib.hid hC1
        clear hC1
        cases hl21 : lt x2 x1 with
        | true =>
          rw [hl21] at HC1
          have hx : Hid (lk[2 * k + 2]? = some x2 ∧ ∀ q, 0 < q → q < n → (q - 1) / 2 = k → lt (lk.getD q d) x2 = false) := Lib.hid ⟨hx2, fun q h0 hq hp => by
            rcases (show q = 2 * k + 1 ∨ q = 2 * k + 2 by omega) with rfl | rfl
            · rw [getD_at hx1]; exact HB.out.1.asym _ _ hl21
            · rw [getD_at hx2]; exact HB.out.1.irrefl _⟩
          obtain ⟨xj, hxj⟩ : ∃ x, x = x2 := ⟨_, rfl⟩
          rw [← hxj] at hx
          have HX := hx
          clear hx hx1 hx2 hl21 hxj
          go_wp2_with fail
          refine HC1.out.mono ?_
          rintro e w4 ⟨rfl, ha4⟩
          have hrr := HR.out
          rw [show At wr lk = At wr lk from rfl] at hrr
          have HR' : Hid (At w4 lk ∧ lk.Perm l ∧ DnF lt (fun q => lk.getD q d) n c k ∧ ∀ q, n ≤ q → lk[q]? = l[q]?) := Lib.hid ⟨ha4, hrr.2⟩
          clear hrr ha4 HC1 HR hL eL
          have HR := HR'
          clear HR'
          obtain ⟨wr, hwr⟩ : ∃ x, x = w4 := ⟨_, rfl⟩
          subst hwr
          have hJ0 : 0 < 2 * k + 2 := by omega
          have hJn : 2 * k + 2 < n := by omega
          have hJp : (2 * k + 2 - 1) / 2 = k := by omega
          obtain ⟨xk, hxk⟩ : ∃ x, lk[k]? = some x := ⟨_, List.getElem?_eq_getElem (by have := HB.out.2.1; omega)⟩
          obtain ⟨gM, rM, hM, eM, hC⟩ := H.out.less wr lk (2 * k + 2) k xj xk HR.out.1 HX.out.1 hxk
          rw [show (((2 * k + 2 : Nat)) : Int) = 2 * (k : Int) + 1 + 1 by omega] at hC
          have HC := Lib.hid hC
          have HXK := Lib.hid hxk
          clear hC hxk
          cases hlt : lt xj xk with
          | true =>
            rw [hlt] at HC
            have HLT := Lib.hid hlt
            clear hlt
            go_wp2_with fail
            refine HC.out.mono ?_
            rintro e w5 ⟨rfl, ha5⟩
            have hkl : k < lk.length := by have := HB.out.2.1; omega
            have hjl : 2 * k + 2 < lk.length := by have := HB.out.2.1; omega
            obtain ⟨gS, rS, hS, eS, hCS⟩ := H.out.swap w5 lk k (2 * k + 2) ha5 hkl hjl
            rw [show (((2 * k + 2 : Nat)) : Int) = 2 * (k : Int) + 1 + 1 by omega] at hCS
            have HCS := Lib.hid hCS
            clear hCS HC ha5 hM eM
            go_wp2_with fail
            refine HCS.out.mono ?_
            rintro e w6 ⟨rfl, ha6⟩
            have HR6 : Hid (At w6 (swL d lk k (2 * k + 2)) ∧ (swL d lk k (2 * k + 2)).Perm l ∧ DnF lt (fun q => (swL d lk k (2 * k + 2)).getD q d) n c (2 * k + 2) ∧ ∀ q, n ≤ q → (swL d lk k (2 * k + 2))[q]? = l[q]?) := Lib.hid (by
              have hne : k ≠ 2 * k + 2 := by omega
              refine ⟨ha6, (swL_perm d hkl hjl hne).trans HR.out.2.1, ?_, fun q hq => ?_⟩
              · rw [swL_fun d hkl hjl hne]
                refine HR.out.2.2.1.step HB.out.1 HC0.out hJ0 hJn hJp ?_ ?_
                · show lt (lk.getD (2 * k + 2) d) (lk.getD k d) = true
                  rw [getD_at HX.out.1, getD_at HXK.out]
                  exact HLT.out
                · intro q h0 hq hp
                  show lt (lk.getD q d) (lk.getD (2 * k + 2) d) = false
                  rw [getD_at HX.out.1]
                  exact HX.out.2 q h0 hq hp
              · unfold swL
                rw [List.getElem?_set_ne (by omega), List.getElem?_set_ne (by omega)]
                exact HR.out.2.2.2 q hq)
            have hlen6 : (swL d lk k (2 * k + 2)).length = lk.length := swL_len d lk k (2 * k + 2)
            clear ha6 HCS hS eS
            go_wp2_with fail
            refine ⟨⟨2 * k + 2, swL d lk k (2 * k + 2), by norm_cast, by have := HB.out.2.1; have := HB.out.2.2; omega, HR6, Lib.hid ⟨HB.out.1, by rw [hlen6]; exact HB.out.2.1, by rw [hlen6]; exact HB.out.2.2⟩, Lib.hid (by have := HC0.out; omega)⟩, ?_⟩
            simp only [intOf]
            omega
          | false =>
            rw [hlt] at HC
            have HLT := Lib.hid hlt
            clear hlt
            go_wp2_with fail
            refine HC.out.mono ?_
            rintro e w5 ⟨rfl, ha5⟩
            have HR6 : Hid (At w5 lk ∧ lk.Perm l ∧ HpG lt (fun q => lk.getD q d) n c ∧ ∀ q, n ≤ q → lk[q]? = l[q]?) := Lib.hid (by
              refine ⟨ha5, HR.out.2.1, HR.out.2.2.1.stop (fun q h0 hq hp => ?_), HR.out.2.2.2⟩
              show lt (lk.getD q d) (lk.getD k d) = false
              rw [getD_at HXK.out]
              have h1 := HX.out.2 q h0 hq hp
              exact HB.out.1.trans _ _ _ h1 HLT.out)
            clear ha5 HC hM eM
            go_wp2_with fail
            go_ret
            exact ⟨⟨_, rfl⟩, lk, HR6.out⟩
        | false =>
          rw [hl21] at HC1
          have HX : Hid (lk[2 * k + 1]? = some x1 ∧ ∀ q, 0 < q → q < n → (q - 1) / 2 = k → lt (lk.getD q d) x1 = false) := Lib.hid ⟨hx1, fun q h0 hq hp => by
            rcases (show q = 2 * k + 1 ∨ q = 2 * k + 2 by omega) with rfl | rfl
            · rw [getD_at hx1]; exact HB.out.1.irrefl _
            · rw [getD_at hx2]; exact hl21⟩
          clear hx1 hx2 hl21
          obtain ⟨xj, hxj⟩ : ∃ x, x = x1 := ⟨_, rfl⟩
          rw [← hxj] at HX
          clear hxj
          go_wp2_with fail
          refine HC1.out.mono ?_
          rintro e w4 ⟨rfl, ha4⟩
          have HR' : Hid (At w4 lk ∧ lk.Perm l ∧ DnF lt (fun q => lk.getD q d) n c k ∧ ∀ q, n ≤ q → lk[q]? = l[q]?) := Lib.hid ⟨ha4, HR.out.2⟩
          clear ha4 HC1 HR hL eL
          have HR := HR'
          clear HR'
          obtain ⟨wr, hwr⟩ : ∃ x, x = w4 := ⟨_, rfl⟩
          subst hwr
          have hJ0 : 0 < 2 * k + 1 := by omega
          have hJn : 2 * k + 1 < n := by omega
          have hJp : (2 * k + 1 - 1) / 2 = k := by omega
          obtain ⟨xk, hxk⟩ : ∃ x, lk[k]? = some x := ⟨_, List.getElem?_eq_getElem (by have := HB.out.2.1; omega)⟩
          obtain ⟨gM, rM, hM, eM, hC⟩ := H.out.less wr lk (2 * k + 1) k xj xk HR.out.1 HX.out.1 hxk
          rw [show (((2 * k + 1 : Nat)) : Int) = 2 * (k : Int) + 1 by omega] at hC
          have HC := Lib.hid hC
          have HXK := Lib.hid hxk
          clear hC hxk
          cases hlt : lt xj xk with
          | true =>
            rw [hlt] at HC
            have HLT := Lib.hid hlt
            clear hlt
            go_wp2_with fail
            refine HC.out.mono ?_
            rintro e w5 ⟨rfl, ha5⟩
            have hkl : k < lk.length := by have := HB.out.2.1; omega
            have hjl : 2 * k + 1 < lk.length := by have := HB.out.2.1; omega
            obtain ⟨gS, rS, hS, eS, hCS⟩ := H.out.swap w5 lk k (2 * k + 1) ha5 hkl hjl
            rw [show (((2 * k + 1 : Nat)) : Int) = 2 * (k : Int) + 1 by omega] at hCS
            have HCS := Lib.hid hCS
            clear hCS HC ha5 hM eM
            go_wp2_with fail
            refine HCS.out.mono ?_
            rintro e w6 ⟨rfl, ha6⟩
            have HR6 : Hid (At w6 (swL d lk k (2 * k + 1)) ∧ (swL d lk k (2 * k + 1)).Perm l ∧ DnF lt (fun q => (swL d lk k (2 * k + 1)).getD q d) n c (2 * k + 1) ∧ ∀ q, n ≤ q → (swL d lk k (2 * k + 1))[q]? = l[q]?) := Lib.hid (by
              have hne : k ≠ 2 * k + 1 := by omega
              refine ⟨ha6, (swL_perm d hkl hjl hne).trans HR.out.2.1, ?_, fun q hq => ?_⟩
              · rw [swL_fun d hkl hjl hne]
                refine HR.out.2.2.1.step HB.out.1 HC0.out hJ0 hJn hJp ?_ ?_
                · show lt (lk.getD (2 * k + 1) d) (lk.getD k d) = true
                  rw [getD_at HX.out.1, getD_at HXK.out]
                  exact HLT.out
                · intro q h0 hq hp
                  show lt (lk.getD q d) (lk.getD (2 * k + 1) d) = false
                  rw [getD_at HX.out.1]
                  exact HX.out.2 q h0 hq hp
              · unfold swL
                rw [List.getElem?_set_ne (by omega), List.getElem?_set_ne (by omega)]
                exact HR.out.2.2.2 q hq)
            have hlen6 : (swL d lk k (2 * k + 1)).length = lk.length := swL_len d lk k (2 * k + 1)
            clear ha6 HCS hS eS
            go_wp2_with fail
            refine ⟨⟨2 * k + 1, swL d lk k (2 * k + 1), by norm_cast, by have := HB.out.2.1; have := HB.out.2.2; omega, HR6, Lib.hid ⟨HB.out.1, by rw [hlen6]; exact HB.out.2.1, by rw [hlen6]; exact HB.out.2.2⟩, Lib.hid (by have := HC0.out; omega)⟩, ?_⟩
            simp only [intOf]
            omega
          | false =>
            rw [hlt] at HC
            have HLT := Lib.hid hlt
            clear hlt
            go_wp2_with fail
            refine HC.out.mono ?_
            rintro e w5 ⟨rfl, ha5⟩
            have HR6 : Hid (At w5 lk ∧ lk.Perm l ∧ HpG lt (fun q => lk.getD q d) n c ∧ ∀ q, n ≤ q → lk[q]? = l[q]?) := Lib.hid (by
              refine ⟨ha5, HR.out.2.1, HR.out.2.2.1.stop (fun q h0 hq hp => ?_), HR.out.2.2.2⟩
              show lt (lk.getD q d) (lk.getD k d) = false
              rw [getD_at HXK.out]
              have h1 := HX.out.2 q h0 hq hp
              exact HB.out.1.trans _ _ _ h1 HLT.out)
            clear ha5 HC hM eM
            go_wp2_with fail
            go_ret
            exact ⟨⟨_, rfl⟩, lk, HR6.out⟩
      · have h2i : ¬ 2 * (k : Int) + 1 + 1 < (n : Int) := by omega
        have HX : Hid (lk[2 * k + 1]? = some x1 ∧ ∀ q, 0 < q → q < n → (q - 1) / 2 = k → lt (lk.getD q d) x1 = false) := Lib.hid ⟨hx1, fun q h0 hq hp => by
          obtain rfl : q = 2 * k + 1 := by omega
          rw [getD_at hx1]
          exact HB.out.1.irrefl _⟩
        obtain ⟨xj, hxj⟩ : ∃ x, x = x1 := ⟨_, rfl⟩
        rw [← hxj] at HX
        clear hx1 hxj
        have hJ0 : 0 < 2 * k + 1 := by omega
        have hJn : 2 * k + 1 < n := by omega
        have hJp : (2 * k + 1 - 1) / 2 = k := by omega
        obtain ⟨xk, hxk⟩ : ∃ x, lk[k]? = some x := ⟨_, List.getElem?_eq_getElem (by have := HB.out.2.1; omega)⟩
        obtain ⟨gM, rM, hM, eM, hC⟩ := H.out.less wr lk (2 * k + 1) k xj xk HR.out.1 HX.out.1 hxk
        rw [show (((2 * k + 1 : Nat)) : Int) = 2 * (k : Int) + 1 by omega] at hC
        have HC := Lib.hid hC
        have HXK := Lib.hid hxk
        clear hC hxk
        cases hlt : lt xj xk with
        | true =>
          rw [hlt] at HC
          have HLT := Lib.hid hlt
          clear hlt
          go_wp2_with fail
          refine HC.out.mono ?_
          rintro e w5 ⟨rfl, ha5⟩
          have hkl : k < lk.length := by have := HB.out.2.1; omega
          have hjl : 2 * k + 1 < lk.length := by have := HB.out.2.1; omega
          obtain ⟨gS, rS, hS, eS, hCS⟩ := H.out.swap w5 lk k (2 * k + 1) ha5 hkl hjl
          rw [show (((2 * k + 1 : Nat)) : Int) = 2 * (k : Int) + 1 by omega] at hCS
          have HCS := Lib.hid hCS
          clear hCS HC ha5 hM eM
          go_wp2_with fail
          refine HCS.out.mono ?_
          rintro e w6 ⟨rfl, ha6⟩
          have HR6 : Hid (At w6 (swL d lk k (2 * k + 1)) ∧ (swL d lk k (2 * k + 1)).Perm l ∧ DnF lt (fun q => (swL d lk k (2 * k + 1)).getD q d) n c (2 * k + 1) ∧ ∀ q, n ≤ q → (swL d lk k (2 * k + 1))[q]? = l[q]?) := Lib.hid (by
            have hne : k ≠ 2 * k + 1 := by omega
            refine ⟨ha6, (swL_perm d hkl hjl hne).trans HR.out.2.1, ?_, fun q hq => ?_⟩
            · rw [swL_fun d hkl hjl hne]
              refine HR.out.2.2.1.step HB.out.1 HC0.out hJ0 hJn hJp ?_ ?_
              · show lt (lk.getD (2 * k + 1) d) (lk.getD k d) = true
                rw [getD_at HX.out.1, getD_at HXK.out]
                exact HLT.out
              · intro q h0 hq hp
                show lt (lk.getD q d) (lk.getD (2 * k + 1) d) = false
                rw [getD_at HX.out.1]
                exact HX.out.2 q h0 hq hp
            · unfold swL
              rw [List.getElem?_set_ne (by omega), List.getElem?_set_ne (by omega)]
              exact HR.out.2.2.2 q hq)
          have hlen6 : (swL d lk k (2 * k + 1)).length = lk.length := swL_len d lk k (2 * k + 1)
          clear ha6 HCS hS eS
          go_wp2_with fail
          refine ⟨⟨2 * k + 1, swL d lk k (2 * k + 1), by norm_cast, by have := HB.out.2.1; have := HB.out.2.2; omega, HR6, Lib.hid ⟨HB.out.1, by rw [hlen6]; exact HB.out.2.1, by rw [hlen6]; exact HB.out.2.2⟩, Lib.hid (by have := HC0.out; omega)⟩, ?_⟩
          simp only [intOf]
          omega
        | false =>
          rw [hlt] at HC
          have HLT := Lib.hid hlt
          clear hlt
          go_wp2_with fail
          refine HC.out.mono ?_
          rintro e w5 ⟨rfl, ha5⟩
          have HR6 : Hid (At w5 lk ∧ lk.Perm l ∧ HpG lt (fun q => lk.getD q d) n c ∧ ∀ q, n ≤ q → lk[q]? = l[q]?) := Lib.hid (by
            refine ⟨ha5, HR.out.2.1, HR.out.2.2.1.stop (fun q h0 hq hp => ?_), HR.out.2.2.2⟩
            show lt (lk.getD q d) (lk.getD k d) = false
            rw [getD_at HXK.out]
            have h1 := HX.out.2 q h0 hq hp
            exact HB.out.1.trans _ _ _ h1 HLT.out)
          clear ha5 HC hM eM
          go_wp2_with fail
          go_ret
          exact ⟨⟨_, rfl⟩, lk, HR6.out⟩
    · have h1i : (n : Int) ≤ 2 * (k : Int) + 1 := by omega
      have HR6 : Hid (At wr lk ∧ lk.Perm l ∧ HpG lt (fun q => lk.getD q d) n c ∧ ∀ q, n ≤ q → lk[q]? = l[q]?) := Lib.hid ⟨HR.out.1, HR.out.2.1, HR.out.2.2.1.stop (fun q h0 hq hp => absurd hq (by omega)), HR.out.2.2.2⟩
      go_wp2_with fail
      go_ret
      exact ⟨⟨_, rfl⟩, lk, HR6.out⟩
end
end Go.Proofs.YtfonchobolhkoaaDoor
