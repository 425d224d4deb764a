/- The document's page: May. -/
import Derived.Test.YtijdbngjnhhheaaPrx
namespace Go.Proofs.Ytijdbngjnhhheaa
open Go.RowKit

section
variable {w : World} {A : Option Addr} {s : List Rec} {c : Nat}
set_option maxRecDepth 100000 in
theorem RMay_any {kd nx : Nat} (k : (PD.mk kd nx s).Ok) (hR : RecsAt w A s) (hc : s.length ≤ c) :
    Calls Try.prog 70 #[.agg #[.int .i64 kd, .int .i64 nx, .slice A s.length c]] w fun e w' => e = .returned (.bool true) ∧ Fr (fun _ => False) w w' := by
  obtain ⟨m, hm⟩ : ∃ m, m = s.length := ⟨_, rfl⟩
  obtain ⟨X, hX, hb, f⟩ := box_ref w (.int .i64 kd) (.int .i64 nx) (.slice A m c)
  have c0 := hb.cell 0
  have c1 := hb.cell 1
  have c2 := hb.cell 2
  simp at c0 c1 c2
  have hsz := k.sz
  have hk4 := k.k
  have hn9 := k.n
  simp only at hsz hk4 hn9
  have hm9 : m ≤ 125 := by omega
  have CS := Size_any (w := X) (k := (kd : Int)) (n := (nx : Int)) (hR.new f) hc (by omega) (by omega)
  obtain ⟨Z, hZ⟩ : ∃ Z, Z = 12 + 4 * s.length + tot s := ⟨_, rfl⟩
  rw [← hZ, ← hm] at CS
  have hZ9 : Z ≤ 512 := by omega
  have HCS := Lib.hid CS
  have HX : Hid (∀ W, Fr (fun _ => False) X W → W.cell? ⟨w.heap.size, 2, none⟩ = some (.slice A m c) ∧ RecsAt W A s ∧ Fr (fun _ => False) w W) := Lib.hid fun W g => by
    have hb2 := hb.keep g (fun q => q)
    exact ⟨(hb2.cell 2).trans rfl, (hR.new f).new g, f.trans g (fun _ _ q => q)⟩
  have HM := Lib.hid (And.intro hm (And.intro k.rs k.ls))
  have HXX := Lib.hid hX
  rw [← hm] at hc ⊢
  clear hR hm f hb k CS hZ hX hsz
  go_enter Try.func70, Try.ntmps70
  go_upto_region 1 with (fail)
  (simp only [← HXX.out])
  have hk0 : ¬ ((kd : Int) < 0) := by omega
  have hk1 : ¬ ((kd : Int) > 4) := by omega
  have hk2 : ¬ ((nx : Int) < 0) := by omega
  have hk3 : ¬ ((nx : Int) > 2147483647) := by omega
  have hk5 : ¬ (4 < (kd : Int)) := by omega
  have hk6 : ¬ (2147483647 < (nx : Int)) := by omega
  go_wp2_with fail
  refine HCS.out.mono ?_
  rintro e w1 ⟨rfl, f1⟩
  have HF1 := Lib.hid f1
  obtain ⟨d2, -, -⟩ := HX.out w1 f1
  have hz1 : ¬ ((Z : Int) > 512) := by omega
  have hz2 : ¬ (512 < (Z : Int)) := by omega
  clear c0 c1 c2 f1 HCS hk0 hk1 hk2 hk3 hk5 hk6
  go_wp2_with fail
  go_loopw [3] (fun v wr => ∃ j : Nat, v = .int .i64 j ∧ j ≤ m ∧ w1 = wr) (fun v _ => m - (intOf v).toNat)
  case atStart => exact ⟨0, rfl, Nat.zero_le _, rfl⟩
  case round =>
    obtain ⟨j, rfl, hj, rfl⟩ := hrel
    by_cases hlt : j < m
    · obtain ⟨o, CB, u0, A1, q1, ho, rfl, z0, z1, -, -⟩ := (HX.out w1 HF1.out).2.1.slot (i := j) (by have := HM.out.1; omega)
      have hr4 : rl o ≤ 400 := by
        cases o with
        | none => simp [rl]
        | some b => exact HM.out.2.1 b (List.mem_of_getElem? ho)
      generalize rl o = r at *
      have hi0 : (0 : Int) ≤ (j : Int) := by omega
      have hi1 : (j : Int) < (m : Int) := by omega
      have hr1 : ¬ ((r : Int) > 400) := by omega
      have hr2 : ¬ (400 < (r : Int)) := by omega
      clear ho z0
      go_wp2_with fail
      exact ⟨⟨j + 1, by go_num, by omega, by first | rfl | trivial⟩, by simp [intOf]; omega⟩
    · obtain rfl : m = j := by omega
      cases m with
      | zero =>
        clear hlt hj
        go_wp2_with fail
        go_ret
        exact ⟨rfl, (HX.out w1 HF1.out).2.2⟩
      | succ j =>
        obtain ⟨b, hb⟩ := HM.out.2.2 j HM.out.1.symm
        obtain ⟨o, CB, u0, A1, q1, ho, rfl, z0, -, hu, -⟩ := (HX.out w1 HF1.out).2.1.slot (i := j) (by have := HM.out.1; omega)
        have hub : u0 = true := by rw [hu]; exact isB_iff.2 ⟨b, hb⟩
        subst hub
        have hc1 : (((j : Int) + 1) - 1) = (j : Int) := by omega
        have hi0 : (0 : Int) ≤ (j : Int) := by omega
        clear hlt hj hb ho hu
        go_wp2_with fail
        go_ret
        exact ⟨rfl, (HX.out w1 HF1.out).2.2⟩
end
end Go.Proofs.Ytijdbngjnhhheaa
