/- couponref06: Commit, where nothing is done. -/
import Derived.Test.YtcnlgbjkjlbmbaaGreatQsn
namespace Go.Proofs.YtcnlgbjkjlbmbaaGreat
open Go.RowKit

section
variable {w : World} {r M : Nat} {pg : List (List UInt8)} {ch : List Chg} {fr : Int} {z : Nat}
set_option maxRecDepth 100000 in
set_option maxHeartbeats 4000000 in
theorem rcom6_no (h : RP w r pg ch M fr (z : Nat)) (hch : ch.length ≤ 10000) (hno : ch.length = 0 ∨ 60 < ch.length ∨ z < wneedN (ch.length : Nat)) : Calls Tryz.prog 37 #[.pointer (some ⟨r, 0, none⟩)] w fun e w' => e = .returned (.int .i64 (if ch.length = 0 then 0 else if 60 < ch.length then 3 else 8)) ∧ w = w' := by
 obtain ⟨room, vp, vc, vd, vl, di, cl, hC⟩ := h
 obtain ⟨k0, k1, k2, k3, k4, k5, k6⟩ := rp_cells hC.1
 obtain ⟨Ac, cc, hvc, _, _, _⟩ := hC.2.2.1
 obtain ⟨m, hm⟩ : ∃ m, m = ch.length := ⟨_, rfl⟩
 obtain ⟨E, hE⟩ : ∃ E : Int, E = (if ch.length = 0 then 0 else if 60 < ch.length then 3 else 8) := ⟨_, rfl⟩
 rw [← hE]
 rw [← hm] at hvc hch hno hE
 have HN := Lib.hid (lneed_any w (m : Int))
 obtain ⟨N0, hN0⟩ : ∃ N0, N0 = wneedN (m : Int) := ⟨_, rfl⟩
 rw [← hN0] at HN hno
 subst hvc
 clear hC hm
 by_cases h0 : m = 0
 · have hE0 : E = 0 := by rw [hE, if_pos h0]
   subst hE0
   subst h0
   clear hE hN0 hno
   go_enter Tryz.func37, Tryz.ntmps37
   go_wp2_with fail
   refine HN.out.mono ?_
   rintro e w1 ⟨rfl, rfl⟩
   go_wp2_with fail
   go_ret
   exact ⟨rfl, rfl⟩
 · have hb0 : ((m : Int) == 0) = false := by rw [beq_eq_false_iff_ne]; omega
   by_cases h6 : 60 < m
   · have hE0 : E = 3 := by rw [hE, if_neg h0, if_pos h6]
     have hz : N0 = 0 := by rw [hN0]; unfold wneedN; rw [if_pos (by omega)]
     subst hE0
     subst hz
     clear hE hN0 hno h6 h0
     go_enter Tryz.func37, Tryz.ntmps37
     go_wp2_with fail
     refine HN.out.mono ?_
     rintro e w1 ⟨rfl, rfl⟩
     go_wp2_with fail
     go_ret
     exact ⟨rfl, rfl⟩
   · have hE0 : E = 8 := by rw [hE, if_neg h0, if_neg h6]
     have hlt : (z : Int) < (N0 : Int) := by omega
     have hb1 : ((N0 : Int) == 0) = false := by rw [beq_eq_false_iff_ne]; omega
     subst hE0
     clear hE hN0 hno h6 h0
     go_enter Tryz.func37, Tryz.ntmps37
     go_wp2_with fail
     refine HN.out.mono ?_
     rintro e w1 ⟨rfl, rfl⟩
     go_wp2_with fail
     go_ret
     exact ⟨rfl, rfl⟩
end
end Go.Proofs.YtcnlgbjkjlbmbaaGreat

