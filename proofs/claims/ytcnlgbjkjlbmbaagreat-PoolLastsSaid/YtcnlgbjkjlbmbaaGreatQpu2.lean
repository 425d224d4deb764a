/- couponref06: Put, on what a pool's changes are (pure); Abort of a pool that is dead. -/
import Derived.Test.YtcnlgbjkjlbmbaaGreatQrq
namespace Go.Proofs.YtcnlgbjkjlbmbaaGreat
open Go.RowKit

theorem range_at {n N : Nat} (hn : n < N) : List.range N = List.range n ++ n :: List.range' (n + 1) (N - n - 1) := by
 have h1 : List.range N = List.range' 0 n ++ List.range' (0 + n) (N - n) := by
  rw [List.range_eq_range', List.range'_append_1]
  congr 1
  omega
 rw [h1, ← List.range_eq_range', Nat.zero_add, show N - n = (N - n - 1) + 1 by omega, List.range'_succ]
 congr 3
theorem openF_at (f : Nat → List UInt8) {n N : Nat} (hn : n < N) : ∃ A C, (∀ a ∈ A, a < n) ∧ (∀ c ∈ C, n < c) ∧ ∀ y, openF (upd f n y) N = A ++ (if y ≠ [] then [n] else []) ++ C ∧ openF f N = A ++ (if f n ≠ [] then [n] else []) ++ C := by
 refine ⟨(List.range n).filter (fun k => !(f k).isEmpty), (List.range' (n + 1) (N - n - 1)).filter (fun k => !(f k).isEmpty), fun a ha => ?_, fun c hc => ?_, fun y => ?_⟩
 · exact List.mem_range.1 (List.mem_filter.1 ha).1
 · have := List.mem_range'_1.1 (List.mem_filter.1 hc).1
   omega
 · have h : ∀ g : Nat → List UInt8, (∀ k, k ≠ n → g k = f k) → openF g N = (List.range n).filter (fun k => !(f k).isEmpty) ++ (if g n ≠ [] then [n] else []) ++ (List.range' (n + 1) (N - n - 1)).filter (fun k => !(f k).isEmpty) := fun g hg => by
    unfold openF
    rw [range_at hn, List.filter_append, List.filter_cons]
    have e1 : (List.range n).filter (fun k => !(g k).isEmpty) = (List.range n).filter (fun k => !(f k).isEmpty) := List.filter_congr fun k hk => by
     rw [hg k (by have := List.mem_range.1 hk; omega)]
    have e2 : (List.range' (n + 1) (N - n - 1)).filter (fun k => !(g k).isEmpty) = (List.range' (n + 1) (N - n - 1)).filter (fun k => !(f k).isEmpty) := List.filter_congr fun k hk => by
     rw [hg k (by have := List.mem_range'_1.1 hk; omega)]
    rw [e1, e2]
    by_cases hgn : g n ≠ []
    · rw [if_pos (by simpa using hgn), if_pos hgn, List.append_assoc, List.singleton_append]
    · rw [if_neg (by simpa using hgn), if_neg hgn, List.append_nil]
   have h1 := h (upd f n y) (fun k hk => upd_ne hk)
   have e : upd f n y n = y := by simp [upd]
   rw [e] at h1
   exact ⟨h1, h f (fun _ _ => rfl)⟩
theorem fold_low {n : Nat} {x : List UInt8} {f : Nat → List UInt8} : ∀ {A : List Nat} {l : List Chg} {b : Bool}, (∀ a ∈ A, a < n) → (chgs f A).foldl (stepC n x) (l, b) = (l ++ chgs f A, b)
 | [], l, b, _ => by simp [chgs]
 | a :: A, l, b, h => by
   have ha := h a (by simp)
   have e : stepC n x (l, b) ⟨(a : Nat), f a⟩ = (l ++ [⟨(a : Nat), f a⟩], b) := by
    have h1 : ¬ ((a : Int) > (n : Int)) := by omega
    have h2 : (a : Int) ≠ (n : Int) := by omega
    simp only [stepC, h1, and_false, if_false, ne_eq, h2, not_false_eq_true, if_true]
   have := fold_low (x := x) (f := f) (A := A) (l := l ++ [⟨(a : Nat), f a⟩]) (b := b) (fun a ha => h a (by simp [ha]))
   show (chgs f A).foldl (stepC n x) (stepC n x (l, b) ⟨(a : Nat), f a⟩) = _
   rw [e, this, List.append_assoc]
   rfl
theorem fold_high {n : Nat} {x : List UInt8} {f : Nat → List UInt8} : ∀ {C : List Nat} {l : List Chg}, (∀ c ∈ C, n < c) → (chgs f C).foldl (stepC n x) (l, true) = (l ++ chgs f C, true)
 | [], l, _ => by simp [chgs]
 | a :: A, l, h => by
   have ha := h a (by simp)
   have e : stepC n x (l, true) ⟨(a : Nat), f a⟩ = (l ++ [⟨(a : Nat), f a⟩], true) := by
    have h2 : (a : Int) ≠ (n : Int) := by omega
    simp only [stepC, Bool.true_eq_false, false_and, if_false, ne_eq, h2, not_false_eq_true, if_true]
   have := fold_high (x := x) (f := f) (C := A) (l := l ++ [⟨(a : Nat), f a⟩]) (fun a ha => h a (by simp [ha]))
   show (chgs f A).foldl (stepC n x) (stepC n x (l, true) ⟨(a : Nat), f a⟩) = _
   rw [e, this, List.append_assoc]
   rfl
theorem chgs_app (f : Nat → List UInt8) (A B : List Nat) : chgs f (A ++ B) = chgs f A ++ chgs f B := by simp [chgs]
theorem chgs_same {f g : Nat → List UInt8} {A : List Nat} (h : ∀ a ∈ A, f a = g a) : chgs f A = chgs g A := by
 unfold chgs
 exact List.map_congr_left fun a ha => by rw [h a ha]
theorem put_chgs {f : Nat → List UInt8} {n N : Nat} (hn : n < N) {x : List UInt8} (hx : x ≠ []) (b : Bool) : putCh (chgs f (openF f N)) n x b = chgs (upd f n (if b then [] else x)) (openF (upd f n (if b then [] else x)) N) := by
 obtain ⟨A, C, hA, hC, h⟩ := openF_at f hn
 obtain ⟨h1, h2⟩ := h (if b then [] else x)
 have hfA : ∀ y, chgs (upd f n y) A = chgs f A := fun y => chgs_same fun a ha => upd_ne (by have := hA a ha; omega)
 have hfC : ∀ y, chgs (upd f n y) C = chgs f C := fun y => chgs_same fun a ha => upd_ne (by have := hC a ha; omega)
 have hmid : ∀ (l : List Chg), (chgs f (if f n ≠ [] then [n] else [])).foldl (stepC n x) (l, b) = (l, b) := fun l => by
  by_cases hf : f n ≠ []
  · rw [if_pos hf]
    have e : stepC n x (l, b) ⟨(n : Nat), f n⟩ = (l, b) := by simp [stepC]
    show stepC n x (l, b) ⟨(n : Nat), f n⟩ = _
    exact e
  · rw [if_neg hf]; rfl
 rw [h1, h2]
 unfold putCh
 simp only [chgs_app, List.foldl_append, fold_low hA, hmid, hfA, hfC]
 cases b with
 | true =>
   rw [fold_high hC]
   simp [chgs]
 | false =>
   have hup : upd f n x n = x := by simp [upd]
   cases C with
   | nil => simp [chgs, hx, hup]
   | cons c C =>
     have hc := hC c (by simp)
     have e : stepC n x ([] ++ chgs f A, false) ⟨(c : Nat), f c⟩ = ([] ++ chgs f A ++ [⟨(n : Int), x⟩] ++ [⟨(c : Nat), f c⟩], true) := step_new (by show (c : Int) > (n : Int); omega) (by show (c : Int) ≠ (n : Int); omega)
     have e2 : (chgs f (c :: C)).foldl (stepC n x) ([] ++ chgs f A, false) = ([] ++ chgs f A ++ [⟨(n : Int), x⟩] ++ [⟨(c : Nat), f c⟩] ++ chgs f C, true) := by
      show (chgs f C).foldl (stepC n x) (stepC n x ([] ++ chgs f A, false) ⟨(c : Nat), f c⟩) = _
      rw [e, fold_high (fun a ha => hC a (by simp [ha]))]
     rw [e2]
     simp [chgs, hx, hup]
section
variable {w : World} {p g z fr lb M1 M2 : Nat} {v : Value} {dd : Bool}
set_option maxRecDepth 100000 in
theorem plabort_dead {B : Nat} {P : Nat → Prop} {d : DS} (h : PlB w p g z fr lb M1 M2 v dd) (hd : DAt w B P g d) (ha : (dd || d.dd) = true) : Calls Tryz.prog 22 #[.pointer (some ⟨p, 0, none⟩)] w fun e w' => e = .returned (.int .i64 10) ∧ PlB w' p g z fr lb M1 M2 v true ∧ Fr (fun b => b = p) w w' := by
 have HR := Lib.hid (plrefuses_any h hd)
 rw [ha] at HR
 clear h hd ha
 go_enter Tryz.func22, Tryz.ntmps22
 go_wp2_with fail
 refine HR.out.mono ?_
 rintro e w2 ⟨rfl, h2, f2⟩
 have H2 := Lib.hid (And.intro h2 f2)
 clear h2 f2
 go_wp2_with fail
 go_ret
 exact ⟨rfl, H2.out.1, H2.out.2⟩
end
end Go.Proofs.YtcnlgbjkjlbmbaaGreat

