/- couponref13: Much. -/
import Derived.Test.YtmopkfjnjbimnaaKtk
namespace Go.Proofs.Ytmopkfjnjbimnaa
open Go.RowKit

set_option maxRecDepth 100000 in
theorem rmuch_any {w : World} {v : Value} {t : TkD} (h : TkV w v t) : Calls Try.prog 8 #[v] w fun e w' => e = .returned (.bool (muchT t)) ∧ Fr (fun _ => False) w w' := by
  obtain ⟨sc, sx, se, rfl, h1, h2, h3⟩ := h
  obtain ⟨A1, c1, rfl, _, _⟩ := h1.slice
  obtain ⟨A2, c2, rfl, _, _⟩ := h2.slice
  obtain ⟨A3, c3, rfl, _, _⟩ := h3.slice
  obtain ⟨n1, hn1⟩ : ∃ n, n = t.cps.length := ⟨_, rfl⟩
  obtain ⟨n2, hn2⟩ : ∃ n, n = t.txs.length := ⟨_, rfl⟩
  obtain ⟨n3, hn3⟩ : ∃ n, n = t.his.length := ⟨_, rfl⟩
  obtain ⟨n4, hn4⟩ : ∃ n, n = t.loc.size := ⟨_, rfl⟩
  have e : muchT t = (decide (20 < n1) || decide (20 < n2) || decide (100 < n3) || decide (100 < n4)) := by rw [hn1, hn2, hn3, hn4]; rfl
  rw [e, ← hn1, ← hn2, ← hn3]
  have f : Fr (fun _ => False) w (w.alloc (.cells #[.int .u64 (t.num : Nat), .string t.loc, .int .i64 t.iss, .slice A1 n1 c1, .slice A2 n2 c2, .int .u64 (t.prv : Nat), .int .u64 (t.org : Nat), .int .u64 (t.fst : Nat), .int .i64 t.vou, .int .i64 t.pos, .slice A3 n3 c3] 27)) := (Fr.refl _ w).alloc _
  have hn4i : (t.loc.size : Int) = (n4 : Int) := by omega
  have HF := Lib.hid f
  clear e hn1 hn2 hn3 hn4 h1 h2 h3 f
  by_cases g0 : 20 < n1
  · have g0i : (20 : Int) < (n1 : Int) := by omega
    rw [show (decide (20 < n1) || decide (20 < n2) || decide (100 < n3) || decide (100 < n4)) = true from by simp [g0]]
    go_enter Try.func8, Try.ntmps8
    go_wp2_with fail
    go_ret
    exact ⟨rfl, HF.out⟩
  · have g0i : ¬ (20 : Int) < (n1 : Int) := by omega
    by_cases g1 : 20 < n2
    · have g1i : (20 : Int) < (n2 : Int) := by omega
      rw [show (decide (20 < n1) || decide (20 < n2) || decide (100 < n3) || decide (100 < n4)) = true from by simp [g1]]
      go_enter Try.func8, Try.ntmps8
      go_wp2_with fail
      go_ret
      exact ⟨rfl, HF.out⟩
    · have g1i : ¬ (20 : Int) < (n2 : Int) := by omega
      by_cases g2 : 100 < n3
      · have g2i : (100 : Int) < (n3 : Int) := by omega
        rw [show (decide (20 < n1) || decide (20 < n2) || decide (100 < n3) || decide (100 < n4)) = true from by simp [g2]]
        go_enter Try.func8, Try.ntmps8
        go_wp2_with fail
        go_ret
        exact ⟨rfl, HF.out⟩
      · have g2i : ¬ (100 : Int) < (n3 : Int) := by omega
        by_cases g3 : 100 < n4
        · have g3i : (100 : Int) < (n4 : Int) := by omega
          rw [show (decide (20 < n1) || decide (20 < n2) || decide (100 < n3) || decide (100 < n4)) = true from by simp [g3]]
          go_enter Try.func8, Try.ntmps8
          go_wp2_with fail
          go_ret
          exact ⟨rfl, HF.out⟩
        · have g3i : ¬ (100 : Int) < (n4 : Int) := by omega
          rw [show (decide (20 < n1) || decide (20 < n2) || decide (100 < n3) || decide (100 < n4)) = false from by simp [g0, g1, g2, g3]]
          go_enter Try.func8, Try.ntmps8
          go_wp2_with fail
          go_ret
          exact ⟨rfl, HF.out⟩
end Go.Proofs.Ytmopkfjnjbimnaa
