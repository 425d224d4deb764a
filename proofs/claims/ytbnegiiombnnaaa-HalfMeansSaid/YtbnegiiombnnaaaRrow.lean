/- couponref02.Row; Split, whatever it is asked. -/
import Derived.Test.YtbnegiiombnnaaaEq
import Derived.Test.YtbnegiiombnnaaaTwo
namespace Go.Proofs.Ytbnegiiombnnaaa
open Go.RowKit

theorem sectorsL_two (a b : List UInt8) (r : List (List UInt8)) : sectorsL (a :: b :: r) = (a ++ b) :: sectorsL r := by
  unfold sectorsL
  have e : ((a :: b :: r).length + 1) / 2 = (r.length + 1) / 2 + 1 := by simp only [List.length_cons]; omega
  rw [e, List.range_succ_eq_map, List.map_cons, List.map_map]
  refine congr (congrArg List.cons ?_) ?_
  · simp [secL]
  · apply List.map_congr_left
    intro i _
    have e1 : 2 * (i + 1) = 2 * i + 1 + 1 := by omega
    simp only [Function.comp_apply, secL, Nat.succ_eq_add_one, e1, List.getElem?_cons_succ]
theorem sectorsL_one (a : List UInt8) : sectorsL [a] = [a ++ nought 64] := by
  simp [sectorsL, secL, List.range_succ]
theorem sectors_flat : ∀ (ls : List (List UInt8)), All64 ls → (sectorsL ls).flatten = ls.flatten ++ nought ((ls.length + 1) / 2 * 128 - 64 * ls.length)
  | [], _ => by simp [sectorsL, nought]
  | [a], _ => by
    rw [sectorsL_one]
    simp
  | a :: b :: r, h => by
    have ih := sectors_flat r (fun l hl => h l (by simp [hl]))
    rw [sectorsL_two, List.flatten_cons, ih, List.flatten_cons, List.flatten_cons]
    have e : ((a :: b :: r).length + 1) / 2 * 128 - 64 * (a :: b :: r).length = (r.length + 1) / 2 * 128 - 64 * r.length := by simp only [List.length_cons]; omega
    rw [e]
    simp
theorem halves64 (c n : Nat) (b : List UInt8) : All64 (halvesL c n b) := fun l hl => by
  obtain ⟨i, hi, rfl⟩ := List.mem_map.1 hl
  exact halfL_len (List.mem_range.1 hi)
theorem row_sectors (c n : Nat) (b : List UInt8) : (sectorsL (halvesL c n b)).flatten = rowB c n b := by
  rw [sectors_flat _ (halves64 c n b), rowB_tags, halvesL_len]
  rfl
/-- Sectors of one's own, in memory. -/
theorem secV_own1 {w : World} {base N : Nat} {v : Value} {l : List UInt8} (h : w.ownsRow base 37 128 v N (cellsB l)) (hl : l.length = N * 128) : SecV w v (secs l N) := by
  have h0 := h
  rcases h.2 with ⟨rfl, e⟩ | ⟨g, cap, cur, rfl, _, _, hn, hc, _⟩
  · refine ⟨none, 0, by rw [secs_len, e], by rw [secs_len, e]; exact Nat.le_refl _, Nat.zero_le _, fun q => ?_⟩
    rw [secs_len, e] at q
    omega
  · refine ⟨_, cap, by rw [secs_len], by rw [secs_len]; exact hn, hc, fun _ => ⟨g, 0, rfl, fun i s hi => ?_⟩⟩
    have hlt : i < N := by
      have := (List.getElem?_eq_some_iff.1 hi).1
      rwa [secs_len] at this
    rw [secs_at _ hlt] at hi
    injection hi with hi
    subst hi
    refine ⟨by rw [List.length_take, List.length_drop]; omega, fun j u hu => ?_⟩
    have hj : j < 128 := by
      have := (List.getElem?_eq_some_iff.1 hu).1
      rw [cellsB_len, List.length_take] at this
      omega
    have := h0.cells (g := g) rfl (i * 128 + j) u (by
      rw [← hu]
      unfold cellsB
      rw [List.getElem?_map, List.getElem?_map, List.getElem?_take, if_pos hj, List.getElem?_drop]
      have e : 128 * i + j = i * 128 + j := by omega
      rw [e])
    have e : 0 + i * 128 + j = i * 128 + j := by omega
    rw [e]
    rw [Addr.add_lit, Nat.zero_add] at this
    exact this

set_option maxRecDepth 100000 in
theorem rrow_any {w : World} {A : Option Addr} {k cb : Nat} {b : List UInt8} (hr : Rd w A k b) (hk : k ≤ 32768) (c n : Nat) (hc : c ≤ 18446744073709551615) (hn : n ≤ 9223372036854775807) :
    Calls Try.prog 13 #[.agg #[.int .u64 c, .int .i64 n], .slice A k cb] w fun e w' => ∃ v, e = .returned v ∧ SecV w' v (secs (rowB c n b) ((many k + 1) / 2)) ∧ Fr (fun _ => False) w w' := by
  have hl := hr.len
  subst hl
  have HF0 : Hid (Fr (fun _ => False) w (w.alloc (.cells #[.int .u64 (c : Nat), .int .i64 (n : Nat)] 24))) := Lib.hid ((Fr.refl _ w).alloc _)
  have HH := Lib.hid (rhalves_any (cb := cb) (hr.keep HF0.out (fun _ _ q => q)) hk c n hc hn)
  clear hr hc hn
  go_enter Try.func13, Try.ntmps13
  go_wp2_with fail
  (with_reducible refine HH.out.mono ?_)
  rintro e w1 ⟨v1, rfl, hl1, hf1⟩
  have HF1 := Lib.hid (HF0.out.trans hf1 (fun _ _ q => q))
  have HS := Lib.hid (rsectors_any hl1 (halves64 c n b) (by rw [halvesL_len]; unfold many; omega))
  clear hl1 hf1 HH
  go_wp2_with fail
  (with_reducible refine HS.out.mono ?_)
  rintro e w2 ⟨v2, rfl, ho, hf2⟩
  rw [row_sectors, halvesL_len] at ho
  have HV := Lib.hid (secV_own1 ho (rowB_len c n b))
  have HF2 := Lib.hid (HF1.out.trans hf2 (fun _ _ q => q))
  clear ho hf2 HS
  go_wp2_with fail
  go_ret
  exact ⟨_, rfl, HV.out, HF2.out⟩

/-- What Split answers, whatever it is asked. -/
def SplitsTo (w' : World) (c : Nat) (n : Int) (b : List UInt8) (A8 : Option Addr) (n8 c8 : Nat) (code : Int) : Prop :=
  (mayT c n = false ∧ n8 = 0 ∧ code = 2) ∨ (mayT c n = true ∧ 32768 < b.length ∧ n8 = 0 ∧ code = 3) ∨
    (mayT c n = true ∧ b.length ≤ 32768 ∧ n8 = (many b.length + 1) / 2 ∧ code = 0 ∧ SecV w' (.slice A8 n8 c8) (secs (rowB c n.toNat b) n8))
theorem split_joint {w : World} {A : Option Addr} {k cb : Nat} {b : List UInt8} (hr : Rd w A k b) (c : Nat) (n : Int) :
    Calls Try.prog 7 #[.agg #[.int .u64 c, .int .i64 n], .slice A k cb] w fun e w' => ∃ A8 n8 c8 code, e = .returned (.tuple #[.slice A8 n8 c8, .int .i64 code]) ∧ SplitsTo w' c n b A8 n8 c8 code ∧ Fr (fun _ => False) w w' := by
  have hl := hr.len
  subst hl
  cases hm : mayT c n with
  | false => exact (split_bad w c n hm A _ cb).mono fun e w' ⟨he, hf⟩ => ⟨none, 0, 0, 2, he, .inl ⟨hm, rfl, rfl⟩, hf⟩
  | true =>
    by_cases hk : 32768 < b.length
    · exact (split_long w c n hm A _ cb hk).mono fun e w' ⟨he, hf⟩ => ⟨none, 0, 0, 3, he, .inr (.inl ⟨hm, hk, rfl, rfl⟩), hf⟩
    · have hn : n = (n.toNat : Int) := by
        unfold mayT at hm
        simp at hm
        omega
      have h1 := split_any (cb := cb) hr (by omega) c n.toNat (by rw [← hn]; exact hm)
      rw [← hn] at h1
      refine h1.mono fun e w' ⟨R, he, hR, hb, hf⟩ => ⟨_, _, _, 0, he, .inr (.inr ⟨hm, by omega, rfl, rfl, ?_⟩), hf⟩
      refine secV_own1 (base := 0) (own_of_blk hb (Nat.zero_le _) (by rw [cellsB_len, rowB_len]) ?_) (rowB_len _ _ _)
      unfold many
      simp only [maxLen]
      omega
end Go.Proofs.Ytbnegiiombnnaaa
