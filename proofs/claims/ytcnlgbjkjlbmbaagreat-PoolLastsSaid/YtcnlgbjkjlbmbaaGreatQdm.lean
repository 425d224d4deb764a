/- couponlaw06's steps, in memory and in the domain; few, fits. -/
import Derived.Test.YtcnlgbjkjlbmbaaGreatR9
import Derived.Deep.Slices
import Derived.Lib.SmallJoins
namespace Go.Proofs.YtcnlgbjkjlbmbaaGreat
open Go.ChangeShapes Go.WideShapes Go.ChangeAt Go.RowKit

structure ActP where
 kd : Int
 sl : Int
 nx : Int
 b : List UInt8
structure ActR where
 a : ActP
 A : Option Addr
 n : Nat
 c : Nat
structure ActK (w : World) (x : ActR) : Prop where
 n : x.n = x.a.b.length
 rd : Rd w x.A x.n x.a.b
 nc : x.n ≤ x.c
 cm : x.c ≤ maxLen
def cellsA (x : ActR) : List Value := [.int .i64 x.a.kd, .int .i64 x.a.sl, .int .i64 x.a.nx, .slice x.A x.n x.c]
def ActsAt (w : World) (b off : Nat) (xs : List ActR) : Prop := ∀ (i : Nat) (x : ActR), xs[i]? = some x → ActK w x ∧ ∀ w', Fr (fun _ => False) w w' → w'.rangeAt b (off + i * 4) (cellsA x)
def ListV (w : World) (v : Value) (xs : List ActR) : Prop := ∃ A cap, v = .slice A xs.length cap ∧ xs.length ≤ maxLen ∧ (0 < xs.length → ∃ b off, A = some ⟨b, off, none⟩ ∧ ActsAt w b off xs)
set_option maxRecDepth 100000 in
theorem range_cells {w : World} {b o : Nat} {x : ActR} (h : w.rangeAt b o (cellsA x)) : w.cell? ⟨b, o, none⟩ = some (.int .i64 x.a.kd) ∧ w.cell? ⟨b, o + 1, none⟩ = some (.int .i64 x.a.sl) ∧ w.cell? ⟨b, o + 2, none⟩ = some (.int .i64 x.a.nx) ∧ w.cell? ⟨b, o + 3, none⟩ = some (.slice x.A x.n x.c) :=
 ⟨h 0 _ rfl, h 1 _ rfl, h 2 _ rfl, h 3 _ rfl⟩
def fewB (xs : List ActR) (m : Nat) : Bool := decide (∀ x ∈ xs, x.n ≤ 600) && decide (xs.length ≤ m)
set_option maxRecDepth 100000 in
theorem infoAct : (Tryz.prog.info? 48).map (·.size) = some 4 := by kernel_rfl
section
variable {w : World} {v : Value} {xs : List ActR}
set_option maxRecDepth 100000 in
theorem few_any (h : ListV w v xs) (m : Nat) : Calls Tryz.prog 9 #[v, .int .i64 m] w fun e w' => e = .returned (.bool (fewB xs m)) ∧ Fr (fun _ => False) w w' := by
 obtain ⟨A, cap, rfl, hl, h2⟩ := h
 obtain ⟨n, hn⟩ : ∃ n, n = xs.length := ⟨_, rfl⟩
 rw [← hn] at hl h2 ⊢
 have hn9 : n ≤ 9223372036854775807 := by simp only [maxLen] at hl; omega
 obtain ⟨z, hz⟩ : ∃ z, z = fewB xs m := ⟨_, rfl⟩
 rw [← hz]
 have HZ := Lib.hid (And.intro hz (And.intro hn h2))
 clear hl h2 hz hn
 go_enter Tryz.func9, Tryz.ntmps9
 go_wp2_with fail
 go_loopw [5] (fun i wr => ∃ k : Nat, i = .int .i64 k ∧ k ≤ n ∧ Hid (∀ i x, i < k → xs[i]? = some x → x.n ≤ 600) ∧ w = wr) (fun i _ => n - (intOf i).toNat)
 case atStart => exact ⟨0, rfl, Nat.zero_le _, Lib.hid (fun i x hi => absurd hi (by omega)), rfl⟩
 case round =>
  obtain ⟨k, rfl, hk, HA, rfl⟩ := hrel
  by_cases hlt : k < n
  · by_cases hkm : k ≤ m
    · obtain ⟨b, off, rfl, hs⟩ := HZ.out.2.2 (by omega)
      obtain ⟨x, hx⟩ : ∃ x, xs[k]? = some x := ⟨_, List.getElem?_eq_getElem (by have := HZ.out.2.1; omega)⟩
      obtain ⟨hk1, hk2⟩ := hs k x hx
      have c3 := (range_cells (hk2 w (Fr.refl _ _))).2.2.2
      have hi0 : (0 : Int) ≤ (k : Int) := by omega
      have hi1 : (k : Int) < (n : Int) := by omega
      have hi2 : (k : Int) ≤ (m : Int) := by omega
      obtain ⟨np, hnp⟩ : ∃ np, np = x.n := ⟨_, rfl⟩
      rw [← hnp] at c3
      have HX := Lib.hid (And.intro hx hnp)
      clear hx hk1 hk2 hs hnp
      by_cases hp : np ≤ 600
      · have HA2 : Hid (∀ i x, i < k + 1 → xs[i]? = some x → x.n ≤ 600) := Lib.hid fun i y hi hy => by
         by_cases e : i = k
         · subst e
           rw [HX.out.1] at hy
           injection hy with hy
           subst hy
           rw [← HX.out.2]; exact hp
         · exact HA.out i y (by omega) hy
        have hpz : ¬ ((np : Int) > 600) := by omega
        clear HA
        go_wp2_with fail
        exact ⟨⟨k + 1, by go_num, by omega, HA2, trivial⟩, by simp [intOf]; omega⟩
      · have hzf : z = false := by
         rw [HZ.out.1]
         unfold fewB
         rw [Bool.and_eq_false_iff]
         refine .inl (decide_eq_false fun hh => hp ?_)
         rw [HX.out.2]; exact hh x (List.mem_of_getElem? HX.out.1)
        subst hzf
        have hpz : (np : Int) > 600 := by omega
        clear HA
        go_wp2_with fail
        go_ret
        exact ⟨rfl, Fr.refl _ _⟩
    · have hzf : z = false := by
       rw [HZ.out.1]
       unfold fewB
       rw [Bool.and_eq_false_iff]
       exact .inr (decide_eq_false (by have := HZ.out.2.1; omega))
      subst hzf
      have hi1 : (k : Int) < (n : Int) := by omega
      have hi2 : ¬ ((k : Int) ≤ (m : Int)) := by omega
      have hi3 : ¬ ((n : Int) ≤ (m : Int)) := by omega
      clear HA
      go_wp2_with fail
      go_ret
      exact ⟨rfl, Fr.refl _ _⟩
  · obtain rfl : n = k := by omega
    have hzz : z = decide (n ≤ m) := by
     rw [HZ.out.1]
     unfold fewB
     have h1 : decide (∀ x ∈ xs, x.n ≤ 600) = true := decide_eq_true fun x hx => by
      obtain ⟨i, hi⟩ := List.getElem?_of_mem hx
      exact HA.out i x (by have := (List.getElem?_eq_some_iff.1 hi).1; have := HZ.out.2.1; omega) hi
     rw [h1, Bool.true_and, ← HZ.out.2.1]
    subst hzz
    clear HA
    go_wp2_with fail
    go_ret
    exact ⟨rfl, Fr.refl _ _⟩
end
set_option maxRecDepth 100000 in
theorem cellsAct : Tryz.prog.cellsOf 48 = 4 := by kernel_rfl
set_option maxRecDepth 100000 in
theorem cells3 : Tryz.prog.cellsOf 3 = 1 := by kernel_rfl
set_option maxRecDepth 100000 in
theorem cells26 : Tryz.prog.cellsOf 46 = 1 := by kernel_rfl
set_option maxRecDepth 100000 in
theorem undAct : Tryz.prog.underlying 48 = some (.struct #[⟨"Kind", 3, 0, false, "", "", 0⟩, ⟨"N", 3, 1, false, "", "", 8⟩, ⟨"Many", 3, 2, false, "", "", 16⟩, ⟨"Bytes", 46, 3, false, "", "", 24⟩]) := by kernel_rfl
set_option maxRecDepth 100000 in
theorem cells5 : Tryz.prog.cellsOf 5 = 1 := by kernel_rfl

section
variable {H : Type} {enc : TypeId × Value → H} {w : World}

set_option maxRecDepth 100000 in
theorem u8_of_wf {a : Int} (h : (Lit.int .u8 a).wf = true) : 0 ≤ a ∧ a ≤ 255 := by
 simpa [Lit.wf, IntKind.min, IntKind.max, IntKind.signed, IntKind.bits] using h

set_option maxRecDepth 100000 in
theorem open_bytes {fuel : Nat} {cs : List Value} {x : DataW H × List MemPlace} (h : DataW.trod enc Tryz.prog w 0 (fun _ => true) true fuel 46 cs = some x) :
 ∃ A n c l, cs = [.slice A n c] ∧ Rd w A n l ∧ (A = none → c = 0) ∧ n ≤ c ∧ c ≤ maxLen ∧ (0 < n → ∀ ad, A = some ad → ad.block < w.heap.size) := by
 rcases open_ints Tryz.underlying46 Tryz.underlying5 cells5 h with ⟨rfl, _⟩ | ⟨a, len, cap, zs, rfl, _, hl, hc, hz, _, hcell, hwf⟩
 · exact ⟨none, 0, 0, [], rfl, Rd.nil _ _, fun _ => rfl, Nat.le_refl _, Nat.zero_le _, fun h => absurd h (by omega)⟩
 · simp only [if_true] at hz
   have hr : Rd w (some a) len ((zs.take len).map fun z => UInt8.ofNat z.toNat) := by
    refine ⟨by rw [List.length_map, List.length_take]; omega, fun _ => ⟨a, rfl, fun j c hj => ?_⟩⟩
    rw [List.getElem?_map, Option.map_eq_some_iff] at hj
    obtain ⟨z, hz1, rfl⟩ := hj
    rw [List.getElem?_take] at hz1
    split at hz1
    · rename_i hjl
      have hjz : j < zs.length := by omega
      have hg := hcell j hjz
      have hzz : zs.getD j 0 = z := by rw [List.getD_eq_getElem?_getD, hz1]; rfl
      rw [hzz] at hg
      have hw := u8_of_wf (hwf z (List.mem_of_getElem? hz1))
      rw [hg, UInt8.toNat_ofNat']
      congr 2
      omega
    · cases hz1
   refine ⟨some a, len, cap, _, rfl, hr, (fun e => by cases e), hl, hc, fun h0 ad e => ?_⟩
   obtain ⟨ad', e', hlt⟩ := hr.lt h0
   rw [e] at e'
   injection e' with e'
   rw [e']
   exact hlt

set_option maxRecDepth 100000 in
theorem list_of {α : Type} {Q : Nat → α → Prop} : ∀ m, (∀ i, i < m → ∃ p, Q i p) → ∃ xs : List α, xs.length = m ∧ ∀ i x, xs[i]? = some x → Q i x
 | 0, _ => ⟨[], rfl, fun i x h => by simp at h⟩
 | m + 1, h => by
   obtain ⟨xs, hl, hx⟩ := list_of m (fun i hi => h i (by omega))
   obtain ⟨p, hp⟩ := h m (by omega)
   refine ⟨xs ++ [p], by simp [hl], fun i x hix => ?_⟩
   rw [List.getElem?_append] at hix
   split at hix
   · exact hx i x hix
   · rename_i hge
     have : i - xs.length = 0 := by
      rcases Nat.eq_zero_or_pos (i - xs.length) with e | e
      · exact e
      · rw [List.getElem?_eq_none (by simp; omega)] at hix; cases hix
     rw [this] at hix
     have e : i = m := by omega
     subst e
     simp at hix
     rw [← hix]
     exact hp
set_option maxRecDepth 100000 in
theorem add_plain (b off n : Nat) : (⟨b, off, none⟩ : Addr).add n = ⟨b, off + n, none⟩ := by
 unfold Addr.add
 split <;> simp_all

set_option maxRecDepth 100000 in
theorem i64_of_wf {a : Int} (h : (Lit.int .i64 a).wf = true) : -9223372036854775808 ≤ a ∧ a ≤ 9223372036854775807 := by
 simpa [Lit.wf, IntKind.min, IntKind.max, IntKind.signed, IntKind.bits] using h

set_option maxRecDepth 100000 in
theorem open_int {v : Value} {d : DataW H} {p : List MemPlace} (hval : ∃ z, v = .int .i64 z) (h : DataW.Trod enc Tryz.prog w 0 (fun _ => true) true 3 v d p) : ∃ z, v = .int .i64 z ∧ -9223372036854775808 ≤ z ∧ z ≤ 9223372036854775807 := by
 obtain ⟨z, rfl⟩ := hval
 obtain ⟨fuel, hf⟩ := h
 obtain ⟨u, e0, _, wu⟩ := DataW.trod_int Tryz.underlying3 hf
 have e : Value.int .i64 z = .int .i64 u := by simpa [Value.cells] using e0
 injection e with _ e
 subst e
 exact ⟨z, rfl, i64_of_wf wu⟩
set_option maxRecDepth 100000 in
theorem open_act {a : Addr} {i : Nat} {fuel : Nat} {cs : List Value} {x : DataW H × List MemPlace} (hc : w.cells? 0 (a.add (i * 4)) 4 = some cs) (h : DataW.trod enc Tryz.prog w 0 (fun _ => true) true fuel 48 cs = some x) :
 ∃ p : ActR, ActK w p ∧ w.cell? (a.add (i * 4)) = some (.int .i64 p.a.kd) ∧ w.cell? (a.add (i * 4 + 1)) = some (.int .i64 p.a.sl) ∧ w.cell? (a.add (i * 4 + 2)) = some (.int .i64 p.a.nx) ∧ w.cell? (a.add (i * 4 + 3)) = some (.slice p.A p.n p.c) := by
 obtain ⟨_, hlen, hat⟩ := World.cells?_some hc
 match cs, hlen with
 | [c0, c1, c2, c3], _ =>
   obtain ⟨y0, y1, y2, y3, n, _, _, t0, t1, t2, t3⟩ := Joins.trod_struct4 undAct h
   simp only [cells3, cells26, List.drop_zero, List.drop_succ_cons, List.take_succ_cons, List.take_zero] at t0 t1 t2 t3
   obtain ⟨k, e0, _, _⟩ := DataW.trod_int Tryz.underlying3 t0
   obtain ⟨u, e1, _, wu⟩ := DataW.trod_int Tryz.underlying3 t1
   obtain ⟨z, e2, _, wz⟩ := DataW.trod_int Tryz.underlying3 t2
   obtain ⟨A, m, c, l, e3, hr, hA, hmc, hcm, hlt⟩ := open_bytes t3
   injection e0 with e0
   injection e1 with e1
   injection e2 with e2
   injection e3 with e3
   subst e0 e1 e2 e3
   have a0 := hat 0 (by omega)
   have a1 := hat 1 (by omega)
   have a2 := hat 2 (by omega)
   have a3 := hat 3 (by omega)
   rw [add_add] at a0 a1 a2 a3
   exact ⟨⟨⟨k, u, z, l⟩, A, m, c⟩, ⟨hr.len.symm, hr, hmc, hcm⟩, a0, a1, a2, a3⟩

end
def fitsB (p z : Int) : Bool := decide (4 ≤ p) && decide (p ≤ 80) && decide (4 ≤ z) && decide (z ≤ 400)
set_option maxRecDepth 100000 in
theorem lfits_any (w : World) (p z : Int) : Calls Tryz.prog 7 #[.int .i64 p, .int .i64 z] w fun e w' => e = .returned (.bool (fitsB p z)) ∧ w = w' := by
 obtain ⟨t, ht⟩ : ∃ t, t = fitsB p z := ⟨_, rfl⟩
 rw [← ht]
 have HT := Lib.hid ht
 clear ht
 by_cases h1 : 4 ≤ p
 · by_cases h2 : p ≤ 80
   · by_cases h3 : 4 ≤ z
     · by_cases h4 : z ≤ 400
       · have e : t = true := by rw [HT.out]; simp [fitsB, h1, h2, h3, h4]
         subst e
         go_enter Tryz.func7, Tryz.ntmps7
         go_wp2_with fail
         go_ret
         exact ⟨rfl, rfl⟩
       · have e : t = false := by rw [HT.out]; simp [fitsB, h4]
         subst e
         go_enter Tryz.func7, Tryz.ntmps7
         go_wp2_with fail
         go_ret
         exact ⟨rfl, rfl⟩
     · have e : t = false := by rw [HT.out]; simp [fitsB, h3]
       subst e
       go_enter Tryz.func7, Tryz.ntmps7
       go_wp2_with fail
       go_ret
       exact ⟨rfl, rfl⟩
   · have e : t = false := by rw [HT.out]; simp [fitsB, h2]
     subst e
     go_enter Tryz.func7, Tryz.ntmps7
     go_wp2_with fail
     go_ret
     exact ⟨rfl, rfl⟩
 · have e : t = false := by rw [HT.out]; simp [fitsB, h1]
   subst e
   go_enter Tryz.func7, Tryz.ntmps7
   go_wp2_with fail
   go_ret
   exact ⟨rfl, rfl⟩
end Go.Proofs.YtcnlgbjkjlbmbaaGreat

