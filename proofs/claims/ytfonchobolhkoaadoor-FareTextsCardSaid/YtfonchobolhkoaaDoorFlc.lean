/- cmp.Compare of uint64 and int, cmp.Or of two: walked. -/
import Derived.Test.YtfonchobolhkoaaDoorFrp
namespace Go.Proofs.YtfonchobolhkoaaDoor
open Go.RowKit

def cmpI (x y : Int) : Int := if x < y then -1 else if y < x then 1 else 0
theorem isnan_u (x : Int) (w : World) : Calls Tryd.prog 106 #[.int .u64 x] w fun e w' => e = .returned (.bool false) ∧ w' = w := by
  have h : (x != x) = false := by simp
  go_enter Tryd.func106, Tryd.ntmps106
  go_wp2_with fail
  go_ret
  exact ⟨rfl, rfl⟩
theorem isnan_i (x : Int) (w : World) : Calls Tryd.prog 107 #[.int .i64 x] w fun e w' => e = .returned (.bool false) ∧ w' = w := by
  have h : (x != x) = false := by simp
  go_enter Tryd.func107, Tryd.ntmps107
  go_wp2_with fail
  go_ret
  exact ⟨rfl, rfl⟩
theorem cmp_u (x y : Int) (w : World) : Calls Tryd.prog 104 #[.int .u64 x, .int .u64 y] w fun e w' => e = .returned (.int .i64 (cmpI x y)) ∧ w' = w := by
  have h1 := isnan_u x
  have h2 := isnan_u y
  unfold cmpI
  by_cases hx : x < y
  · go_enter Tryd.func104, Tryd.ntmps104
    go_wp2_with fail
    refine (h1 _).mono ?_
    rintro e w1 ⟨rfl, rfl⟩
    go_wp2_with fail
    refine (h2 _).mono ?_
    rintro e w1 ⟨rfl, rfl⟩
    go_wp2_with fail
    go_ret
    exact ⟨rfl, rfl⟩
  · by_cases hy : y < x
    · have hy' : x > y := hy
      go_enter Tryd.func104, Tryd.ntmps104
      go_wp2_with fail
      refine (h1 _).mono ?_
      rintro e w1 ⟨rfl, rfl⟩
      go_wp2_with fail
      refine (h2 _).mono ?_
      rintro e w1 ⟨rfl, rfl⟩
      go_wp2_with fail
      go_ret
      exact ⟨rfl, rfl⟩
    · have hy' : ¬ x > y := hy
      go_enter Tryd.func104, Tryd.ntmps104
      go_wp2_with fail
      refine (h1 _).mono ?_
      rintro e w1 ⟨rfl, rfl⟩
      go_wp2_with fail
      refine (h2 _).mono ?_
      rintro e w1 ⟨rfl, rfl⟩
      go_wp2_with fail
      go_ret
      exact ⟨rfl, rfl⟩
theorem cmp_i (x y : Int) (w : World) : Calls Tryd.prog 105 #[.int .i64 x, .int .i64 y] w fun e w' => e = .returned (.int .i64 (cmpI x y)) ∧ w' = w := by
  have h1 := isnan_i x
  have h2 := isnan_i y
  unfold cmpI
  by_cases hx : x < y
  · go_enter Tryd.func105, Tryd.ntmps105
    go_wp2_with fail
    refine (h1 _).mono ?_
    rintro e w1 ⟨rfl, rfl⟩
    go_wp2_with fail
    refine (h2 _).mono ?_
    rintro e w1 ⟨rfl, rfl⟩
    go_wp2_with fail
    go_ret
    exact ⟨rfl, rfl⟩
  · by_cases hy : y < x
    · have hy' : x > y := hy
      go_enter Tryd.func105, Tryd.ntmps105
      go_wp2_with fail
      refine (h1 _).mono ?_
      rintro e w1 ⟨rfl, rfl⟩
      go_wp2_with fail
      refine (h2 _).mono ?_
      rintro e w1 ⟨rfl, rfl⟩
      go_wp2_with fail
      go_ret
      exact ⟨rfl, rfl⟩
    · have hy' : ¬ x > y := hy
      go_enter Tryd.func105, Tryd.ntmps105
      go_wp2_with fail
      refine (h1 _).mono ?_
      rintro e w1 ⟨rfl, rfl⟩
      go_wp2_with fail
      refine (h2 _).mono ?_
      rintro e w1 ⟨rfl, rfl⟩
      go_wp2_with fail
      go_ret
      exact ⟨rfl, rfl⟩
/-- What cmp.Or says of two. -/
def orI (a b : Int) : Int := if a = 0 then b else a
set_option maxRecDepth 100000 in
theorem or_any {w : World} {g : Nat} (a b : Int) (ha : w.cell? ⟨g, 0, none⟩ = some (.int .i64 a)) (hb : w.cell? ⟨g, 1, none⟩ = some (.int .i64 b)) :
    Calls Tryd.prog 103 #[.slice (some ⟨g, 0, none⟩) 2 2] w fun e w' => e = .returned (.int .i64 (orI a b)) ∧ w' = w := by
  obtain ⟨c, hc⟩ : ∃ c, c = orI a b := ⟨_, rfl⟩
  rw [← hc]
  have HC := Lib.hid hc
  have HA := Lib.hid (And.intro ha hb)
  clear hc ha hb
  go_enter Tryd.func103, Tryd.ntmps103
  go_wp2_with fail
  go_loopw [8] (fun x wr => wr = w ∧ ∃ k : Nat, x = .int .i64 k ∧ k ≤ 2 ∧ Hid (0 < k → a = 0) ∧ Hid (1 < k → b = 0)) (fun x _ => 2 - (intOf x).toNat)
  case atStart => exact ⟨rfl, 0, rfl, by omega, Lib.hid (fun h => absurd h (by omega)), Lib.hid (fun h => absurd h (by omega))⟩
  case round =>
    obtain ⟨rfl, k, rfl, hk, H0, H1⟩ := hrel
    by_cases h2 : k = 2
    · subst h2
      have e1 : c = 0 := by rw [HC.out]; unfold orI; rw [if_pos (H0.out (by omega)), H1.out (by omega)]
      subst e1
      clear hk H0 H1 HC HA
      go_wp2_with fail
      go_ret
      exact ⟨rfl, rfl⟩
    · by_cases h1 : k = 1
      · subst h1
        have hb := HA.out.2
        have ea := H0.out (by omega)
        have hcb : c = b := by rw [HC.out]; unfold orI; rw [if_pos ea]
        subst hcb
        by_cases hz : c = 0
        · have HH1 := Lib.hid (fun (_ : 1 < 2) => hz)
          have hz' : (c != 0) = false := by rw [hz]; rfl
          clear hk H1 HC HA h2 ea hz
          go_wp2_with fail
          exact ⟨⟨trivial, 2, rfl, by omega, Lib.hid (fun _ => H0.out (by omega)), Lib.hid (fun _ => HH1.out (by omega))⟩, by simp [intOf]⟩
        · have hz' : (c != 0) = true := by rw [bne_iff_ne]; exact hz
          clear hk H1 HC HA h2 ea hz H0
          go_wp2_with fail
          go_ret
          exact ⟨rfl, rfl⟩
      · obtain rfl : k = 0 := by omega
        have ha := HA.out.1
        by_cases hz : a = 0
        · have HZ := Lib.hid hz
          have hz' : (a != 0) = false := by rw [hz]; rfl
          clear hk H1 H0 h2 h1 hz
          go_wp2_with fail
          exact ⟨⟨trivial, 1, rfl, by omega, Lib.hid (fun _ => HZ.out), Lib.hid (fun h => absurd h (by omega))⟩, by simp [intOf]⟩
        · have hz' : (a != 0) = true := by rw [bne_iff_ne]; exact hz
          have e1 : c = a := by rw [HC.out]; unfold orI; rw [if_neg hz]
          subst e1
          clear hk H1 HC HA h2 h1 hz H0
          go_wp2_with fail
          go_ret
          exact ⟨rfl, rfl⟩
end Go.Proofs.YtfonchobolhkoaaDoor
