/- couponref11: Part, Together, MayWeights, May; couponlaw11.same. -/
import Derived.Test.YtfonchobolhkoaaDoorFal
import Derived.BigQuiet
import Derived.Deep.QuietTactic
namespace Go.Proofs.YtfonchobolhkoaaDoor
open Go.RowKit

def bitOf (j : Nat) : Nat := 1099511627776 / 2 ^ j
theorem bit_next (j : Nat) : bitOf (j + 1) = bitOf j / 2 := by unfold bitOf; rw [Nat.pow_succ, Nat.div_div_eq_div_mul]
theorem bit_le (j : Nat) : bitOf j ≤ 1099511627776 := Nat.div_le_self _ _
theorem bit_end : bitOf 41 = 0 := by decide
theorem bit_pow {j : Nat} (h : j < 41) : bitOf j = 2 ^ (40 - j) := by
  unfold bitOf
  rw [show (1099511627776 : Nat) = 2 ^ 40 from rfl, Nat.pow_div (by omega) (by omega)]
theorem bit_half {j : Nat} (h : j < 41) (a : Nat) : a / bitOf j / 2 = a / 2 ^ (41 - j) := by
  rw [bit_pow h, Nat.div_div_eq_div_mul, ← Nat.pow_succ, show (40 - j).succ = 41 - j by omega]
theorem wrap64_id {z : Int} (h0 : -4611686018427387904 ≤ z) (h1 : z ≤ 4611686018427387904) : wrap64 z = z := by unfold wrap64; omega
theorem wrapI_id {z : Int} (h0 : -4611686018427387904 ≤ z) (h1 : z ≤ 4611686018427387904) : IntKind.i64.wrap z = z := by simp [IntKind.wrap, IntKind.signed, IntKind.bits]; omega
theorem quo_run (Y S : Nat) (hS : 0 < S) (hY : Y ≤ 1000000000000000000) (w : World) : (binOp .quo 2 (.int .i64 (Y : Int)) (.int .i64 (S : Int))).run Tryd.prog w = .ok (.int .i64 ((Y / S : Nat) : Int)) w := by
  have h1 : ((S : Int) == 0) = false := by rw [beq_eq_false_iff_ne]; omega
  have h2 : (Y : Int).tdiv (S : Int) = ((Y / S : Nat) : Int) := by rw [Int.tdiv_eq_ediv_of_nonneg (by omega)]; rfl
  have h3 : Y / S ≤ Y := Nat.div_le_self _ _
  generalize Y / S = D at *
  have h4 : IntKind.i64.wrap (D : Int) = (D : Int) := by simp [IntKind.wrap, IntKind.signed, IntKind.bits]; omega
  go_simp
  omega
theorem rem_run (Y S : Nat) (hS : 0 < S) (hS2 : S ≤ 1000000000000000000) (w : World) : (binOp .rem 2 (.int .i64 (Y : Int)) (.int .i64 (S : Int))).run Tryd.prog w = .ok (.int .i64 ((Y % S : Nat) : Int)) w := by
  have h1 : ((S : Int) == 0) = false := by rw [beq_eq_false_iff_ne]; omega
  have h2 : (Y : Int).tmod (S : Int) = ((Y % S : Nat) : Int) := by rw [Int.tmod_eq_emod_of_nonneg (by omega)]; rfl
  have h3 := Nat.mod_lt Y hS
  generalize Y % S = D at *
  have h4 : IntKind.i64.wrap (D : Int) = (D : Int) := by simp [IntKind.wrap, IntKind.signed, IntKind.bits]; omega
  go_simp
  omega
theorem part_step {B w S q r : Nat} (hS : 0 < S) (hq : q = B / 2 * w / S) (hr : r = B / 2 * w % S) : B * w / S = 2 * q + (2 * r + B % 2 * w) / S ∧ B * w % S = (2 * r + B % 2 * w) % S := by
  have hB : B * w = S * (2 * q) + (2 * r + B % 2 * w) := by
    have h1 := Nat.div_add_mod (B / 2 * w) S
    rw [← hq, ← hr] at h1
    have h2 := Nat.div_add_mod B 2
    have h3 : B * w = 2 * (B / 2 * w) + B % 2 * w := by rw [← Nat.mul_assoc, ← Nat.add_mul, h2]
    rw [h3, ← h1, Nat.mul_add, Nat.mul_left_comm]
    omega
  rw [hB, Nat.mul_add_div hS, Nat.mul_add_mod]
  exact ⟨rfl, rfl⟩
set_option maxRecDepth 100000 in
set_option maxHeartbeats 1000000 in
theorem rpart_any (a x S : Nat) (ha : a < 2199023255552) (hx : x ≤ S) (hS : 0 < S) (hS2 : S ≤ 1000000000000000) (w : World) : Calls Tryd.prog 17 #[.int .i64 a, .int .i64 x, .int .i64 S] w fun e w' => e = .returned (.tuple #[.int .i64 (a * x / S : Nat), .int .i64 (a * x % S : Nat)]) ∧ Fr (fun _ => False) w w' := by
  have HA := Lib.hid (And.intro ha hS)
  have ha0 : (0 : Int) ≤ (a : Int) := by omega
  have hS0 : (0 : Int) < (S : Int) := by omega
  have hSi : (S : Int) ≤ 1000000000000000 := by omega
  have hxi : (x : Int) ≤ (S : Int) := by omega
  have hai : (a : Int) ≤ 2199023255552 := by omega
  obtain ⟨q0, hq0⟩ : ∃ q0, q0 = a * x / S := ⟨_, rfl⟩
  obtain ⟨r0, hr0⟩ : ∃ r0, r0 = a * x % S := ⟨_, rfl⟩
  rw [← hq0, ← hr0]
  have HR := Lib.hid (And.intro hq0 hr0)
  clear ha hx hS hS2 hq0 hr0
  go_enter Tryd.func17, Tryd.ntmps17
  go_wp2_with fail
  go_loopw [8, 9, 10] (fun y z b wr => ∃ (j u q r : Nat), y = .int .i64 q ∧ z = .int .i64 r ∧ b = .int .i64 u ∧ j ≤ 41 ∧ Hid (u = bitOf j) ∧ Hid (q = a / 2 ^ (41 - j) * x / S) ∧ Hid (r = a / 2 ^ (41 - j) * x % S) ∧ Hid (Fr (fun _ => False) w wr)) (fun _ _ b _ => (intOf b).toNat)
  case atStart =>
    have h0 : a / 2 ^ (41 - 0) = 0 := Nat.div_eq_of_lt (by have := HA.out.1; have : (2 : Nat) ^ (41 - 0) = 2199023255552 := rfl; omega)
    exact ⟨0, 1099511627776, 0, 0, rfl, rfl, rfl, by omega, Lib.hid rfl, Lib.hid (by rw [h0]; simp), Lib.hid (by rw [h0]; simp), Lib.hid (Fr.refl _ _)⟩
  case round =>
    obtain ⟨j, u, q, r, rfl, rfl, rfl, hj, HU, HQ, HM, HF⟩ := hrel
    by_cases hlt : j < 41
    · have hu0 : 0 < u := by rw [HU.out, bit_pow hlt]; exact Nat.pow_pos (by omega)
      have hu1 : u ≤ 1099511627776 := by rw [HU.out]; exact bit_le j
      obtain ⟨B, hB⟩ : ∃ B, B = a / u := ⟨_, rfl⟩
      have hhalf := bit_half hlt a
      rw [← HU.out, ← hB] at hhalf
      have hq := HQ.out
      have hr := HM.out
      rw [← hhalf] at hq hr
      have hst := part_step HA.out.2 hq hr
      have hBa : B ≤ a := by rw [hB]; exact Nat.div_le_self _ _
      have hrS : r < S := by rw [hr]; exact Nat.mod_lt _ HA.out.2
      have hqa : q ≤ a := by
        rw [hq]
        have h1 : B / 2 * x ≤ B / 2 * S := Nat.mul_le_mul_left _ (by omega)
        have h2 := Nat.div_le_div_right (c := S) h1
        rw [Nat.mul_div_cancel _ HA.out.2] at h2
        omega
      have hBi : (a : Int) / (u : Int) = (B : Int) := by rw [hB]; omega
      have hnext : a / 2 ^ (41 - (j + 1)) = B := by rw [hB, HU.out, bit_pow hlt, show 41 - (j + 1) = 40 - j by omega]
      have hui : (0 : Int) < (u : Int) := by omega
      have huj : (u : Int) ≤ 1099511627776 := by omega
      have hqi : (q : Int) ≤ 2199023255552 := by omega
      have hri : (r : Int) < (S : Int) := by omega
      have HWR : Hid (wrap64 ((a : Int) / (u : Int)) = (B : Int)) := Lib.hid (by rw [hBi]; exact wrap64_id (by omega) (by omega))
      have hB9 : (B : Int) ≤ 2199023255552 := by omega
      by_cases hb : B % 2 = 1
      · have hbb : ((B : Int) % 2 == 1) = true := by first | (rw [beq_iff_eq]; omega) | (rw [beq_eq_false_iff_ne]; omega)
        obtain ⟨Y, hY⟩ : ∃ Y : Nat, (Y : Int) = 2 * (r : Int) + (x : Int) := ⟨2 * r + x, by omega⟩
        obtain ⟨Q2, hQ2⟩ : ∃ Q2 : Nat, (Q2 : Int) = 2 * (q : Int) := ⟨2 * q, by omega⟩
        have hY3 : Y = 2 * r + B % 2 * x := by rw [hb]; omega
        have hQ3 : Q2 = 2 * q := by omega
        rw [← hY3, ← hQ3] at hst
        obtain ⟨D, hD⟩ : ∃ D, D = Y / S := ⟨_, rfl⟩
        obtain ⟨E, hE⟩ : ∃ E, E = Y % S := ⟨_, rfl⟩
        rw [← hD, ← hE] at hst
        have hYS : D ≤ Y := by rw [hD]; exact Nat.div_le_self _ _
        have hES : E < S := by rw [hE]; exact Nat.mod_lt _ HA.out.2
        have hYD : (Y : Int) / (S : Int) = (D : Int) := by rw [hD]; rfl
        have hYE : (Y : Int).tmod (S : Int) = (E : Int) := by rw [Int.tmod_eq_emod_of_nonneg (by omega), hE]; rfl
        have HSZ : Hid (¬ S = 0) := Lib.hid (by omega)
        have HDW : Hid (IntKind.i64.wrap ((Y : Int) / (S : Int)) = (D : Int)) := Lib.hid (by rw [hYD]; exact wrapI_id (by omega) (by omega))
        have HEW : Hid ((Y : Int).tmod (S : Int) = (E : Int)) := Lib.hid hYE
        have HW : Hid (IntKind.i64.wrap ((Q2 : Int) + (D : Int)) = (Q2 : Int) + (D : Int)) := Lib.hid (wrapI_id (by omega) (by omega))
        clear hYD hYE
        have HST := Lib.hid (And.intro hst (And.intro hnext (And.intro hlt hu0)))
        have HY := Lib.hid (And.intro hY hQ2)
        clear hst hnext hlt hu0 hu1 hB hhalf hq hr hBa hrS hqa hBi hb hY3 hQ3 hYS hES hD hE hY hQ2
        have hwr := HWR.out
        go_wp2_with fail
        clear hwr
        rw [← HY.out.1, ← HY.out.2]
        refine wp_region_held_drew (S := fun w' => Fr (fun _ => False) wr w') (by kernel_rfl) ((Fr.refl _ wr).drew) (fun hS0 => ?_)
        refine anyH_take 0 27 (.int .i64 (Q2 : Nat)) rfl rfl (by kernel_rfl) (by kernel_rfl) (by kernel_rfl) (fun _ _ _ h => h) (.inl ⟨by rfl, fun w'' hS => by go_simp⟩) hS0 ?_
        (simp only [List.setIfInBounds_toArray, List.set_cons_zero, List.set_cons_succ])
        refine anyH_take 1 28 (.int .i64 (Y : Nat)) rfl rfl (by kernel_rfl) (by kernel_rfl) (by kernel_rfl) (fun _ _ _ h => h) (.inl ⟨by rfl, fun w'' hS => by go_simp⟩) hS0 ?_
        (simp only [List.setIfInBounds_toArray, List.set_cons_zero, List.set_cons_succ])
        refine anyH_take 2 29 (.int .i64 (S : Nat)) rfl rfl (by kernel_rfl) (by kernel_rfl) (by kernel_rfl) (fun _ _ _ h => h) (.inl ⟨by rfl, fun w'' hS => by go_simp⟩) hS0 ?_
        (simp only [List.setIfInBounds_toArray, List.set_cons_zero, List.set_cons_succ])
        refine anyH_take 3 30 (.int .i64 (D : Nat)) rfl rfl (by kernel_rfl) (by kernel_rfl) (by kernel_rfl) (fun _ _ _ h => h) (.inl ⟨by rfl, fun w'' hS => by have q0 := HSZ.out; have q1 := HDW.out; go_simp⟩) hS0 ?_
        (simp only [List.setIfInBounds_toArray, List.set_cons_zero, List.set_cons_succ])
        refine anyH_take 4 31 (.int .i64 ((Q2 : Int) + (D : Int))) rfl rfl (by kernel_rfl) (by kernel_rfl) (by kernel_rfl) (fun _ _ _ h => h) (.inl ⟨by rfl, fun w'' hS => by have q0 := HW.out; go_simp⟩) hS0 ?_
        (simp only [List.setIfInBounds_toArray, List.set_cons_zero, List.set_cons_succ])
        refine anyH_take 5 32 (.int .i64 (Y : Nat)) rfl rfl (by kernel_rfl) (by kernel_rfl) (by kernel_rfl) (fun _ _ _ h => h) (.inl ⟨by rfl, fun w'' hS => by go_simp⟩) hS0 ?_
        (simp only [List.setIfInBounds_toArray, List.set_cons_zero, List.set_cons_succ])
        refine anyH_take 6 33 (.int .i64 (S : Nat)) rfl rfl (by kernel_rfl) (by kernel_rfl) (by kernel_rfl) (fun _ _ _ h => h) (.inl ⟨by rfl, fun w'' hS => by go_simp⟩) hS0 ?_
        (simp only [List.setIfInBounds_toArray, List.set_cons_zero, List.set_cons_succ])
        refine anyH_take 7 34 (.int .i64 (E : Nat)) rfl rfl (by kernel_rfl) (by kernel_rfl) (by kernel_rfl) (fun _ _ _ h => h) (.inl ⟨by rfl, fun w'' hS => by have q0 := HSZ.out; have q1 := HEW.out; go_simp⟩) hS0 ?_
        (simp only [List.setIfInBounds_toArray, List.set_cons_zero, List.set_cons_succ])
        refine anyH_take 8 8 (.int .i64 ((Q2 : Int) + (D : Int))) rfl rfl (by kernel_rfl) (by kernel_rfl) (by kernel_rfl) (fun _ _ _ h => h) (.inl ⟨by rfl, fun w'' hS => by go_simp⟩) hS0 ?_
        (simp only [List.setIfInBounds_toArray, List.set_cons_zero, List.set_cons_succ])
        refine anyH_take 9 9 (.int .i64 (E : Nat)) rfl rfl (by kernel_rfl) (by kernel_rfl) (by kernel_rfl) (fun _ _ _ h => h) (.inl ⟨by rfl, fun w'' hS => by go_simp⟩) hS0 ?_
        (simp only [List.setIfInBounds_toArray, List.set_cons_zero, List.set_cons_succ])
        refine wpAnyH_done (by kernel_rfl) ?_ _
        have HF2 := Lib.hid (HF.out.trans hS0 (fun _ _ q => q))
        clear hS0
        clear HWR
        go_wp2_with fail
        refine ⟨⟨j + 1, u / 2, Q2 + D, E, by norm_cast, rfl, ?_, by have := HST.out.2.2.1; omega, Lib.hid (by rw [bit_next, ← HU.out]), Lib.hid (by rw [HST.out.2.1, HST.out.1.1]), Lib.hid (by rw [HST.out.2.1, HST.out.1.2]), HF2⟩, ?_⟩
        · first | norm_cast | (rw [wrap64_id (by omega) (by omega)]; norm_cast)
        · simp only [intOf]
          have := HST.out.2.2.2
          omega
      · have hbb : ((B : Int) % 2 == 1) = false := by first | (rw [beq_iff_eq]; omega) | (rw [beq_eq_false_iff_ne]; omega)
        obtain ⟨Y, hY⟩ : ∃ Y : Nat, (Y : Int) = 2 * (r : Int) := ⟨2 * r, by omega⟩
        obtain ⟨Q2, hQ2⟩ : ∃ Q2 : Nat, (Q2 : Int) = 2 * (q : Int) := ⟨2 * q, by omega⟩
        have hY3 : Y = 2 * r + B % 2 * x := by rw [show B % 2 = 0 by omega]; omega
        have hQ3 : Q2 = 2 * q := by omega
        rw [← hY3, ← hQ3] at hst
        obtain ⟨D, hD⟩ : ∃ D, D = Y / S := ⟨_, rfl⟩
        obtain ⟨E, hE⟩ : ∃ E, E = Y % S := ⟨_, rfl⟩
        rw [← hD, ← hE] at hst
        have hYS : D ≤ Y := by rw [hD]; exact Nat.div_le_self _ _
        have hES : E < S := by rw [hE]; exact Nat.mod_lt _ HA.out.2
        have hYD : (Y : Int) / (S : Int) = (D : Int) := by rw [hD]; rfl
        have hYE : (Y : Int).tmod (S : Int) = (E : Int) := by rw [Int.tmod_eq_emod_of_nonneg (by omega), hE]; rfl
        have HSZ : Hid (¬ S = 0) := Lib.hid (by omega)
        have HDW : Hid (IntKind.i64.wrap ((Y : Int) / (S : Int)) = (D : Int)) := Lib.hid (by rw [hYD]; exact wrapI_id (by omega) (by omega))
        have HEW : Hid ((Y : Int).tmod (S : Int) = (E : Int)) := Lib.hid hYE
        have HW : Hid (IntKind.i64.wrap ((Q2 : Int) + (D : Int)) = (Q2 : Int) + (D : Int)) := Lib.hid (wrapI_id (by omega) (by omega))
        clear hYD hYE
        have HST := Lib.hid (And.intro hst (And.intro hnext (And.intro hlt hu0)))
        have HY := Lib.hid (And.intro hY hQ2)
        clear hst hnext hlt hu0 hu1 hB hhalf hq hr hBa hrS hqa hBi hb hY3 hQ3 hYS hES hD hE hY hQ2
        have hwr := HWR.out
        go_wp2_with fail
        clear hwr
        rw [← HY.out.1, ← HY.out.2]
        refine wp_region_held_drew (S := fun w' => Fr (fun _ => False) wr w') (by kernel_rfl) ((Fr.refl _ wr).drew) (fun hS0 => ?_)
        refine anyH_take 0 27 (.int .i64 (Q2 : Nat)) rfl rfl (by kernel_rfl) (by kernel_rfl) (by kernel_rfl) (fun _ _ _ h => h) (.inl ⟨by rfl, fun w'' hS => by go_simp⟩) hS0 ?_
        (simp only [List.setIfInBounds_toArray, List.set_cons_zero, List.set_cons_succ])
        refine anyH_take 1 28 (.int .i64 (Y : Nat)) rfl rfl (by kernel_rfl) (by kernel_rfl) (by kernel_rfl) (fun _ _ _ h => h) (.inl ⟨by rfl, fun w'' hS => by go_simp⟩) hS0 ?_
        (simp only [List.setIfInBounds_toArray, List.set_cons_zero, List.set_cons_succ])
        refine anyH_take 2 29 (.int .i64 (S : Nat)) rfl rfl (by kernel_rfl) (by kernel_rfl) (by kernel_rfl) (fun _ _ _ h => h) (.inl ⟨by rfl, fun w'' hS => by go_simp⟩) hS0 ?_
        (simp only [List.setIfInBounds_toArray, List.set_cons_zero, List.set_cons_succ])
        refine anyH_take 3 30 (.int .i64 (D : Nat)) rfl rfl (by kernel_rfl) (by kernel_rfl) (by kernel_rfl) (fun _ _ _ h => h) (.inl ⟨by rfl, fun w'' hS => by have q0 := HSZ.out; have q1 := HDW.out; go_simp⟩) hS0 ?_
        (simp only [List.setIfInBounds_toArray, List.set_cons_zero, List.set_cons_succ])
        refine anyH_take 4 31 (.int .i64 ((Q2 : Int) + (D : Int))) rfl rfl (by kernel_rfl) (by kernel_rfl) (by kernel_rfl) (fun _ _ _ h => h) (.inl ⟨by rfl, fun w'' hS => by have q0 := HW.out; go_simp⟩) hS0 ?_
        (simp only [List.setIfInBounds_toArray, List.set_cons_zero, List.set_cons_succ])
        refine anyH_take 5 32 (.int .i64 (Y : Nat)) rfl rfl (by kernel_rfl) (by kernel_rfl) (by kernel_rfl) (fun _ _ _ h => h) (.inl ⟨by rfl, fun w'' hS => by go_simp⟩) hS0 ?_
        (simp only [List.setIfInBounds_toArray, List.set_cons_zero, List.set_cons_succ])
        refine anyH_take 6 33 (.int .i64 (S : Nat)) rfl rfl (by kernel_rfl) (by kernel_rfl) (by kernel_rfl) (fun _ _ _ h => h) (.inl ⟨by rfl, fun w'' hS => by go_simp⟩) hS0 ?_
        (simp only [List.setIfInBounds_toArray, List.set_cons_zero, List.set_cons_succ])
        refine anyH_take 7 34 (.int .i64 (E : Nat)) rfl rfl (by kernel_rfl) (by kernel_rfl) (by kernel_rfl) (fun _ _ _ h => h) (.inl ⟨by rfl, fun w'' hS => by have q0 := HSZ.out; have q1 := HEW.out; go_simp⟩) hS0 ?_
        (simp only [List.setIfInBounds_toArray, List.set_cons_zero, List.set_cons_succ])
        refine anyH_take 8 8 (.int .i64 ((Q2 : Int) + (D : Int))) rfl rfl (by kernel_rfl) (by kernel_rfl) (by kernel_rfl) (fun _ _ _ h => h) (.inl ⟨by rfl, fun w'' hS => by go_simp⟩) hS0 ?_
        (simp only [List.setIfInBounds_toArray, List.set_cons_zero, List.set_cons_succ])
        refine anyH_take 9 9 (.int .i64 (E : Nat)) rfl rfl (by kernel_rfl) (by kernel_rfl) (by kernel_rfl) (fun _ _ _ h => h) (.inl ⟨by rfl, fun w'' hS => by go_simp⟩) hS0 ?_
        (simp only [List.setIfInBounds_toArray, List.set_cons_zero, List.set_cons_succ])
        refine wpAnyH_done (by kernel_rfl) ?_ _
        have HF2 := Lib.hid (HF.out.trans hS0 (fun _ _ q => q))
        clear hS0
        clear HWR
        go_wp2_with fail
        refine ⟨⟨j + 1, u / 2, Q2 + D, E, by norm_cast, rfl, ?_, by have := HST.out.2.2.1; omega, Lib.hid (by rw [bit_next, ← HU.out]), Lib.hid (by rw [HST.out.2.1, HST.out.1.1]), Lib.hid (by rw [HST.out.2.1, HST.out.1.2]), HF2⟩, ?_⟩
        · first | norm_cast | (rw [wrap64_id (by omega) (by omega)]; norm_cast)
        · simp only [intOf]
          have := HST.out.2.2.2
          omega
    · obtain rfl : j = 41 := by omega
      have h0 : u = 0 := by rw [HU.out, bit_end]
      subst h0
      have hq : q = q0 := by rw [HQ.out, HR.out.1]; simp
      have hr : r = r0 := by rw [HM.out, HR.out.2]; simp
      subst hq hr
      clear hlt
      go_wp2_with fail
      go_ret2
      exact ⟨rfl, HF.out⟩
end Go.Proofs.YtfonchobolhkoaaDoor
