/- number.Text: a ticket number's digits; Of: a text's number; Locator. -/
import Derived.Test.YtchofmncinbmcaaNcb
import Derived.Test.YtchofmncinbmcaaNbu
namespace Go.Proofs.Ytchofmncinbmcaa
open Go.RowKit

theorem own_ge {w : World} {base e size n : Nat} {v : Value} {xs : List Value} (h : w.ownsRow base e size v n xs) {k : Nat} (hk : v.ownBlock = some k) : base ≤ k := by
  rcases h.2 with ⟨rfl, _⟩ | ⟨g', cap, cur, rfl, hb, _⟩
  · simp [Value.ownBlock] at hk
  · have : g' = k := by simpa [Value.ownBlock] using hk
    omega
theorem txt_pad {n : Nat} (h : chkE n = 0) : txt n = padL n 13 ∧ 1000000000000 ≤ n ∧ n ≤ 9999999999999 := by
  have hn : 1000000000000 ≤ n ∧ n ≤ 9999999999999 := by
    unfold chkE at h
    split at h
    · omega
    · omega
  refine ⟨?_, hn⟩
  have e13 : (10 : Nat) ^ 13 = 10000000000000 := rfl
  have hv : dval (padL n 13) = n := by rw [padL_dval, e13]; omega
  have hh : (padL n 13).head? ≠ some 48 := by
    rw [padL_cons n 12]
    intro e
    have e2 : UInt8.ofNat (48 + n / 10 ^ 12 % 10) = 48 := by simpa using e
    have := congrArg UInt8.toNat e2
    rw [toNat_dig _ (by omega)] at this
    have h48 : (48 : UInt8).toNat = 48 := rfl
    have : (10 : Nat) ^ 12 = 1000000000000 := rfl
    omega
  have := txt_dval 12 (padL n 13) (padL_len 13 n) (padL_dig 13 n) (.inr hh)
  rw [hv] at this
  exact this
/-- 10^12, less by k places; nought behind the last one. -/
def unitOf (k : Nat) : Nat := 1000000000000 / 10 ^ k
theorem unit_pos {k : Nat} (h : k < 13) : 0 < unitOf k := by
  unfold unitOf
  match k, h with
  | 0, _ | 1, _ | 2, _ | 3, _ | 4, _ | 5, _ | 6, _ | 7, _ | 8, _ | 9, _ | 10, _ | 11, _ | 12, _ => decide
theorem unit_end : unitOf 13 = 0 := by decide
theorem unit_le (k : Nat) : unitOf k ≤ 1000000000000 := Nat.div_le_self _ _
theorem unit_next (k : Nat) : unitOf (k + 1) = unitOf k / 10 := by unfold unitOf; rw [Nat.pow_succ, Nat.div_div_eq_div_mul]
theorem unit_step {k : Nat} (h : k < 13) (n : Nat) : padL (n / 10 ^ (13 - (k + 1))) (k + 1) = padL (n / 10 ^ (13 - k)) k ++ [UInt8.ofNat (48 + n / unitOf k % 10)] := by
  rw [padL, Nat.div_div_eq_div_mul, ← Nat.pow_succ, show (13 - (k + 1)).succ = 13 - k by omega]
  congr 4
  match k, h with
  | 0, _ | 1, _ | 2, _ | 3, _ | 4, _ | 5, _ | 6, _ | 7, _ | 8, _ | 9, _ | 10, _ | 11, _ | 12, _ => simp [unitOf]
set_option maxRecDepth 100000 in
set_option maxHeartbeats 1000000 in
theorem ntext_any (n : Nat) (hn : n < 18446744073709551616) (w : World) : Calls Try.prog 15 #[.int .u64 n] w fun e w' => ∃ s : ByteArray, e = .returned (.string s) ∧ s.data.toList = (if chkE n = 0 then txt n else []) ∧ Fr (fun _ => False) w w' := by
  have HC := Lib.hid (ncheck_any n hn w)
  by_cases h : chkE n = 0
  · rw [if_pos h]
    rw [h] at HC
    obtain ⟨htx, hn1, hn2⟩ := txt_pad h
    rw [htx]
    have hnm : (n : Int) ≤ 9999999999999 := by omega
    have hstart : Bu (w.alloc (.cells #[.pointer none, .slice none 0 0] 58)) w.heap.size w.heap.size (.slice none 0 0) [] false := ⟨Blk.new _ _ _, World.ownsRow_nil _ _ _ _, by simp⟩
    have HS := Lib.hid hstart
    clear h htx hn hstart hn1 hn2
    go_enter Try.func15, Try.ntmps15
    go_wp2_with fail
    refine HC.out.mono ?_
    rintro e w1 ⟨rfl, rfl⟩
    clear HC
    go_wp2_with fail
    go_loopw [4] (fun x wr => ∃ (k u : Nat) (v : Value) (f : Bool), x = .int .u64 u ∧ k ≤ 13 ∧ Hid (u = unitOf k) ∧ Hid (Bu wr w.heap.size w.heap.size v (padL (n / 10 ^ (13 - k)) k) f) ∧ Hid (Fr (fun _ => False) w wr)) (fun x _ => (intOf x).toNat)
    case atStart => exact ⟨0, 1000000000000, _, false, rfl, by omega, Lib.hid rfl, HS, Lib.hid ((Fr.refl _ w).alloc _)⟩
    case round =>
      obtain ⟨k, u, v, f, rfl, hk, HU, HB, HF⟩ := hrel
      by_cases hlt : k < 13
      · have hu0 : 0 < u := by rw [HU.out]; exact unit_pos hlt
        have hu1 : u ≤ 1000000000000 := by rw [HU.out]; exact unit_le k
        have hui : (0 : Int) < (u : Int) := by omega
        have hui1 : (u : Int) ≤ 1000000000000 := by omega
        obtain ⟨c, hc⟩ : ∃ c : UInt8, c = UInt8.ofNat (48 + n / u % 10) := ⟨_, rfl⟩
        have hcv : (c.toNat : Int) = 48 + (n : Int) / (u : Int) % 10 := by rw [hc, toNat_dig _ (by omega)]; omega
        have hc7 : c.toNat < 128 := by rw [hc, toNat_dig _ (by omega)]; omega
        have hq0 : (0 : Int) ≤ (n : Int) / (u : Int) := Int.ediv_nonneg (by omega) (by omega)
        have hq1 : (n : Int) / (u : Int) ≤ (n : Int) := Int.ediv_le_self _ (by omega)
        have HW := Lib.hid (wrune_any HB.out c hc7 (by rw [padL_len]; omega))
        have HC := Lib.hid (And.intro hc hlt)
        rw [hcv] at HW
        clear hc hlt hcv hc7 hu0 hu1
        obtain ⟨q, hq⟩ : ∃ q : Int, (n : Int) / (u : Int) = q := ⟨_, rfl⟩
        rw [hq] at HW hq0 hq1
        have hz1 : IntKind.u64.wrap q = q := by simp [IntKind.wrap, IntKind.signed, IntKind.bits]; omega
        go_wp2_with fail
        refine HW.out.mono ?_
        rintro e w2 ⟨⟨nn, rfl⟩, v', hb', hf', hk'⟩
        have HX := Lib.hid (And.intro hb' (And.intro hf' hk'))
        clear hb' hf' hk' HW hq
        go_wp2_with fail
        refine ⟨⟨k + 1, u / 10, v', true, by norm_cast, by have := HC.out.2; omega, Lib.hid (by rw [unit_next, HU.out]), Lib.hid ?_, Lib.hid ?_⟩, ?_⟩
        · rw [unit_step HC.out.2, ← HU.out, ← HC.out.1]
          exact HX.out.1
        · refine HF.out.trans HX.out.2.1 (fun i hi q => ?_)
          rcases q with q | q
          · omega
          · exact absurd (own_ge HB.out.2.1 q) (by omega)
        · simp only [intOf]
          omega
      · obtain rfl : k = 13 := by omega
        have h0 : u = 0 := by rw [HU.out, unit_end]
        subst h0
        have HSt := Lib.hid (bstr_ok HB.out (by intro e; have := congrArg List.length e; rw [padL_len] at this; simp at this))
        clear hlt
        go_wp2_with fail
        refine HSt.out.mono ?_
        rintro e w2 ⟨rfl, hb⟩
        have HG := Lib.hid hb
        clear hb
        go_wp2_with fail
        go_ret
        refine ⟨_, rfl, ?_, HF.out.trans ⟨HG.out.os, HG.out.tape, HG.out.output, HG.out.size, fun i hi hn => HG.out.block i (Nat.lt_of_not_le hn)⟩ (fun i hi q => absurd q (Nat.not_le_of_lt hi))⟩
        simp
  · rw [if_neg h]
    obtain ⟨v, hv⟩ : ∃ v, v = chkE n := ⟨_, rfl⟩
    rw [← hv] at HC h
    have hb : ((v : Int) != 0) = true := by rw [bne_iff_ne]; omega
    clear hv h hn
    go_enter Try.func15, Try.ntmps15
    go_wp2_with fail
    refine HC.out.mono ?_
    rintro e w1 ⟨rfl, rfl⟩
    go_wp2_with fail
    go_ret
    exact ⟨_, rfl, rfl, Fr.refl _ _⟩
end Go.Proofs.Ytchofmncinbmcaa
