/- The heap of losses as container/heap meets it: its five methods. -/
import Derived.Test.YtfonchobolhkoaaDoorFph
import Derived.Test.YtfonchobolhkoaaDoorFhf
namespace Go.Proofs.YtfonchobolhkoaaDoor
open Go.RowKit

def encL (x : Nat × Nat) : Value := .iface 58 (.agg #[lsA x, lsB x])
def heapP (p : Nat) : Value := .pointer (some ⟨p, 0, none⟩)
section
variable (p : Nat) (W : World)
theorem mt_len : Sem.run Tryd.prog (method 244 56 (heapP p) "Len") W = Sem.run Tryd.prog (do let v ← Go.loadVar 51 ⟨p, 0, none⟩; pure (100, v)) W := by kernel_rfl
theorem mt_less : Sem.run Tryd.prog (method 244 56 (heapP p) "Less") W = Sem.run Tryd.prog (do let v ← Go.loadVar 51 ⟨p, 0, none⟩; pure (101, v)) W := by kernel_rfl
theorem mt_swap : Sem.run Tryd.prog (method 244 56 (heapP p) "Swap") W = Sem.run Tryd.prog (do let v ← Go.loadVar 51 ⟨p, 0, none⟩; pure (102, v)) W := by kernel_rfl
theorem mt_push : Sem.run Tryd.prog (method 244 56 (heapP p) "Push") W = .ok (109, heapP p) W := by kernel_rfl
theorem mt_pop : Sem.run Tryd.prog (method 244 56 (heapP p) "Pop") W = .ok (108, heapP p) W := by kernel_rfl
end
theorem load_ls {W : World} {p n c : Nat} {A : Option Addr} {v : Value} (g : Nat) (h : W.cell? ⟨p, 0, none⟩ = some v) (hv : v = .slice A n c) : Sem.run Tryd.prog (do let v ← Go.loadVar 51 ⟨p, 0, none⟩; pure (g, v)) W = .ok (g, v) W := by
  subst hv
  simp [loadVar, h, go_sem, Tryd.underlying51]
theorem len_any {w : World} (A : Option Addr) (n c : Nat) : Calls Tryd.prog 100 #[.slice A n c] w fun e w' => e = .returned (.int .i64 (n : Nat)) ∧ w' = w := by
  go_enter Tryd.func100, Tryd.ntmps100
  go_wp2_with fail
  go_ret
  exact ⟨rfl, rfl⟩
theorem AtH.slice {w0 W : World} {p : Nat} {l : List (Nat × Nat)} (h : AtH w0 p W l) : ∃ v A c, v = .slice A l.length c ∧ W.cell? ⟨p, 0, none⟩ = some v ∧ RowP 58 lsA lsB W (p + 1) v l := by
  obtain ⟨_, v, h1, h2, h3, h4⟩ := h
  obtain ⟨A, c, e, _⟩ := h3.slice
  exact ⟨v, A, c, e, h1, h3⟩
theorem AtH.keep {w0 W W' : World} {p : Nat} {l : List (Nat × Nat)} (h : AtH w0 p W l) (f : Fr (fun _ => False) W W') : AtH w0 p W' l := by
  obtain ⟨h0, v, h1, h2, h3, h4⟩ := h
  have hp := World.block_lt_of_cell? W _ h1
  exact ⟨h0, v, (f.cell hp (fun q => q)).trans h1, (f.frozen hp (fun q => q)).trans h2, h3.keep0 f, h4.trans f (fun _ _ q => q.elim)⟩
set_option maxRecDepth 100000 in
theorem heapv (w0 : World) (p : Nat) : HeapV 56 (heapP p) lossB (0, 0) encL (AtH w0 p) where
  len := fun W l ha => by
    obtain ⟨v, A, c, hv, hc, hr⟩ := ha.slice
    refine ⟨_, v, (mt_len p W).trans (load_ls _ hc hv), fun _ _ => by kernel_rfl, ?_⟩
    rw [hv]
    refine (len_any A l.length c).mono ?_
    rintro e w' ⟨rfl, rfl⟩
    exact ⟨rfl, ha⟩
  less := fun W l i j x y ha hx hy => by
    obtain ⟨v, A, c, hv, hc, hr⟩ := ha.slice
    refine ⟨_, v, (mt_less p W).trans (load_ls _ hc hv), fun _ _ => by kernel_rfl, ?_⟩
    refine (less_any hr ha.1 hx hy).mono ?_
    rintro e w' ⟨rfl, hf⟩
    exact ⟨rfl, ha.keep hf⟩
  swap := fun W l i j ha hi hj => by
    have ha' := ha
    obtain ⟨v, A, c, hv, hc, hr⟩ := ha.slice
    refine ⟨_, v, (mt_swap p W).trans (load_ls _ hc hv), fun _ _ => by kernel_rfl, ?_⟩
    refine (swap_any hr ha.1 (List.getElem?_eq_getElem hi) (List.getElem?_eq_getElem hj)).mono ?_
    rintro e w' ⟨rfl, hr', hf⟩
    obtain ⟨h0, v', h1, h2, h3, h4⟩ := ha'
    obtain rfl : v = v' := Option.some.inj (hc.symm.trans h1)
    have hp := World.block_lt_of_cell? W _ h1
    have hne : ¬ v.ownBlock = some p := fun q => by have := hr.low q; omega
    exact ⟨rfl, by rw [swL_len]; exact h0, v, (hf.cell hp hne).trans h1, (hf.frozen hp hne).trans h2, hr', h4.trans hf (fun k _ q => by have := hr.low q; omega)⟩
  push := fun W l x ha hl => ⟨_, _, mt_push p W, fun _ _ => by kernel_rfl, push_any x ha hl⟩
  pop := fun W l x ha => by
    refine ⟨_, _, mt_pop p W, fun _ _ => by kernel_rfl, ?_⟩
    obtain ⟨h0, v, h1, h2, h3, h4⟩ := ha
    obtain ⟨g, c, rfl, hx1, hx2⟩ := h3.cell (show (l ++ [x])[l.length]? = some x by simp)
    have hgp : p + 1 ≤ g := h3.low rfl
    have hn : (l ++ [x]).length = l.length + 1 := by simp
    rw [hn] at h0 h1 h3
    refine (pop_any (n := l.length) rfl h3 (by omega) h1 h2 (by omega)).mono ?_
    rintro e w' ⟨rfl, hr', hc', hf', hf⟩
    exact ⟨rfl, by omega, _, hc', hf', hr', h4.trans hf (fun k _ q => by omega)⟩
end Go.Proofs.YtfonchobolhkoaaDoor
