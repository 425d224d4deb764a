/- couponref04's Need of any number; pages laid behind pages. -/
import Derived.Test.YtcnlgbjkjlbmbaaGreatQsc
namespace Go.Proofs.YtcnlgbjkjlbmbaaGreat
open Go.RowKit

theorem lneed_any (w : World) (n : Int) : Calls Tryz.prog 27 #[.int .i64 n] w fun e w' => e = .returned (.int .i64 (wneedN n : Nat)) ∧ w = w' := by
 by_cases h0 : n < 1
 · have : wneedN n = 0 := by simp [wneedN, h0]
   rw [this]
   go_enter Tryz.func27, Tryz.ntmps27
   go_wp2_with fail
   go_ret
   exact ⟨rfl, rfl⟩
 by_cases h1 : 60 < n
 · have : wneedN n = 0 := by simp [wneedN, h1]
   rw [this]
   have h2 : n > 60 := h1
   go_enter Tryz.func27, Tryz.ntmps27
   go_wp2_with fail
   go_ret
   exact ⟨rfl, rfl⟩
 have hn : wneedN n = needN (516 * n) := by unfold wneedN; rw [if_neg (by omega), Int.mul_comm]
 have e1 : IntKind.i64.wrap (516 * n) = 516 * n := by simp [IntKind.wrap, IntKind.signed, IntKind.bits]; omega
 have h2 : ¬ n > 60 := by omega
 have HM := Lib.hid (rneed_any w (516 * n))
 rw [hn]
 generalize needN (516 * n) = m at *
 clear hn
 go_enter Tryz.func27, Tryz.ntmps27
 go_wp2_with fail
 (with_reducible refine HM.out.mono ?_)
 rintro e w1 ⟨rfl, rfl⟩
 go_wp2_with fail
 go_ret
 exact ⟨rfl, rfl⟩
set_option maxRecDepth 100000 in
theorem append_pages {w : World} {v : Value} {l : List (List UInt8)} (h : PgsV w v l) (hn : 0 < l.length) (hl : l.length ≤ 10000) (ty : TypeId) :
 ∃ b c w', (Builtin.append_ #[34, 34] ty #[.slice none 0 0, v]).run Tryz.prog w = .ok (.slice (some ⟨b, 0, none⟩) l.length c) w' ∧ w'.ownsRow w.heap.size 50 512 (.slice (some ⟨b, 0, none⟩) l.length c) l.length (cellsB (flatP l)) ∧ Fr (fun _ => False) w w' ∧ w.heap.size ≤ b := by
 obtain ⟨i0, hi, hz0, hz1, hz2⟩ := info_parts infoPg
 obtain ⟨A, c, rfl, h1, h2, h3, h4⟩ := h
 obtain ⟨b, off, rfl, h5⟩ := h4 hn
 obtain ⟨v', w', hrun, g2, g3, _, g5⟩ := run_append_own_at (P := Tryz.prog) w w.heap.size 34 ty 50 i0 (av (nought 512)) 512 512 Tryz.underlying34 hi hz0 hz1 hz2 (by show (cellsB (nought 512)).toArray.size = 512; rw [List.size_toArray, cellsB_len, nought_len]) (by omega) (.slice none 0 0) 0 [] (World.ownsRow_nil _ _ _ _) ⟨b, off, none⟩ l.length c (cellsB (flatP l))
  (by rw [cellsB_len, flatP_len h3]) (fun j u hj => by
    rw [Addr.add_mid]
    have hj2 : j < l.length * 512 := by have := (List.getElem?_eq_some_iff.1 hj).1; rwa [cellsB_len, flatP_len h3] at this
    have hq : j / 512 < l.length := by omega
    obtain ⟨x, hx⟩ : ∃ x, l[j / 512]? = some x := ⟨_, List.getElem?_eq_getElem hq⟩
    have hxl := h3 x (List.mem_of_getElem? hx)
    have hu2 : ∃ u2, (cellsB x)[j % 512]? = some u2 := ⟨_, List.getElem?_eq_getElem (by rw [cellsB_len, hxl]; omega)⟩
    obtain ⟨u2, hu2⟩ := hu2
    have := flatP_at h3 hx (j % 512) u2 hu2
    rw [show j / 512 * 512 + j % 512 = j by omega, hj] at this
    injection this with e
    rw [e]
    have := h5 (j / 512) x hx (j % 512) u2 hu2
    rwa [show off + j / 512 * 512 + j % 512 = off + j by omega] at this) (cellsB_one _) (by simp only [maxLen]; omega) (by omega) (Nat.le_refl _)
 rw [Nat.zero_add, List.nil_append] at g2
 obtain ⟨g, cap, hv⟩ : ∃ g cap, v' = .slice (some ⟨g, 0, none⟩) l.length cap := by
  rcases g2.2 with ⟨_, e⟩ | ⟨g, cap, _, e, _⟩
  · omega
  · exact ⟨g, cap, e⟩
 subst hv
 exact ⟨g, cap, w', hrun, g2, (Fr.refl _ w).grown g3 (fun k hk => by cases hk), own_low g2 rfl⟩
theorem flatP_patch : ∀ {l : List (List UInt8)} {i : Nat} {x : List UInt8}, (∀ y ∈ l, y.length = 512) → i < l.length → x.length = 512 → patch (flatP l) (i * 512) x = flatP (l.set i x)
 | [], i, x, _, hi, _ => absurd hi (by simp)
 | a :: l, 0, x, h, _, hx => by
   have ha := h a (by simp)
   show patch (a ++ flatP l) (0 * 512) x = x ++ flatP l
   unfold patch
   rw [Nat.zero_mul, List.take_zero, List.nil_append, Nat.zero_add, hx, ← ha, List.drop_left]
 | a :: l, i + 1, x, h, hi, hx => by
   have ha := h a (by simp)
   have ih := flatP_patch (l := l) (i := i) (x := x) (fun y hy => h y (by simp [hy])) (by simpa using hi) hx
   show patch (a ++ flatP l) ((i + 1) * 512) x = a ++ flatP (l.set i x)
   rw [← ih]
   unfold patch
   rw [List.take_append, List.drop_append, ha, List.take_of_length_le (by rw [ha]; omega), List.drop_of_length_le (by rw [ha]; omega), List.nil_append, List.append_assoc, show (i + 1) * 512 - 512 = i * 512 by omega, show (i + 1) * 512 + x.length - 512 = i * 512 + x.length by omega]
end Go.Proofs.YtcnlgbjkjlbmbaaGreat

