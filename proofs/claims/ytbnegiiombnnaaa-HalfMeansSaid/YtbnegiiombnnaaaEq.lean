/- Sectors compared; couponlaw02.same; couponref02.Row. -/
import Derived.Test.YtbnegiiombnnaaaRse
import Derived.ChangeKeysEq
import Derived.Deep.MidRow
namespace Go.Proofs.Ytbnegiiombnnaaa
open Go.RowKit

theorem eqItems_bytes (d : Nat) (l m : List UInt8) (w : World) : ∀ is : List Nat, (∀ i ∈ is, i < l.length ∧ i < m.length) → (Op.eqItems (d + 1) 5 (Try.prog.cellsOf 5) (cellsB l).toArray (cellsB m).toArray is).run Try.prog w = .ok (is.all fun i => l[i]? == m[i]?) w
  | [], _ => by simp [Op.eqItems]
  | i :: is, h => by
    have hc : Try.prog.cellsOf 5 = 1 := by kernel_rfl
    have ih := eqItems_bytes d l m w is (fun j hj => h j (by simp [hj]))
    rw [hc] at ih ⊢
    obtain ⟨h1, h2⟩ := h i (by simp)
    have e1 : (cellsB l).toArray[i * 1]? = some (.int .u8 (l[i].toNat : Int)) := by simp [cellsB, h1]
    have e2 : (cellsB m).toArray[i * 1]? = some (.int .u8 (m[i].toNat : Int)) := by simp [cellsB, h2]
    have hp : Try.prog.plainKey 5 = true := by kernel_rfl
    have hq : (Op.equalIn (d + 1) 5 (.int .u8 (l[i].toNat : Int)) (.int .u8 (m[i].toNat : Int))).run Try.prog w = .ok (l[i]? == m[i]?) w := by
      simp only [Op.equalIn, Sem.run_bind, run_underlying Try.underlying5, Result.andThen_ok]
      have e3 : ((l[i].toNat : Int) == (m[i].toNat : Int)) = (l[i]? == m[i]?) := by
        rw [List.getElem?_eq_getElem h1, List.getElem?_eq_getElem h2, Bool.eq_iff_iff]
        simp only [beq_iff_eq, Option.some.injEq]
        exact Int.natCast_inj.trans UInt8.toNat_inj
      simp [e3]
    simp only [Op.eqItems, Sem.run_bind, run_part_plain w hp e1, run_part_plain w hp e2, hq, Result.andThen_ok, List.all_cons]
    cases hb : (l[i]? == m[i]?) with
    | false => simp
    | true => simp [ih]
theorem all_same {l m : List UInt8} (hl : l.length = m.length) : ((List.range l.length).all fun i => l[i]? == m[i]?) = decide (l = m) := by
  rw [Bool.eq_iff_iff, List.all_eq_true, decide_eq_true_eq]
  constructor
  · intro h
    apply List.ext_getElem? 
    intro i
    by_cases hi : i < l.length
    · simpa using h i (List.mem_range.2 hi)
    · rw [List.getElem?_eq_none (by omega), List.getElem?_eq_none (by omega)]
  · rintro rfl i _
    simp
theorem sec_equal (l m : List UInt8) (hl : l.length = 128) (hm : m.length = 128) (w : World) : (Op.equal 37 (av l) (av m)).run Try.prog w = .ok (decide (l = m)) w := by
  obtain ⟨i0, hi, _⟩ := info_parts infoU8
  have h := run_equalIn_array (P := Try.prog) w 9999 (t := 37) (cellsB l).toArray (cellsB m).toArray Try.underlying37 hi
  rw [eqItems_bytes 9998 l m w (List.range 128) (fun i hi => by have := List.mem_range.1 hi; omega)] at h
  have e := all_same (l := l) (m := m) (by omega)
  rw [hl] at e
  rw [e] at h
  exact h
theorem sec_neq (l m : List UInt8) (hl : l.length = 128) (hm : m.length = 128) (w : World) : (binOp .neq 37 (av l) (av m)).run Try.prog w = .ok (.bool (!decide (l = m))) w := by
  simp [binOp, sec_equal l m hl hm w]
theorem sec_eql (l m : List UInt8) (hl : l.length = 128) (hm : m.length = 128) (w : World) : (binOp .eql 37 (av l) (av m)).run Try.prog w = .ok (.bool (decide (l = m))) w := by
  simp [binOp, sec_equal l m hl hm w]

set_option maxRecDepth 100000 in
set_option maxHeartbeats 4000000 in
theorem same_any {w : World} {va vb : Value} {ss : List (List UInt8)} (ha : SecV w va ss) (hb : SecV w vb ss) : Calls Try.prog 12 #[va, vb] w fun e w' => e = .returned (.bool true) ∧ Fr (fun _ => False) w w' := by
  obtain ⟨A, ca, rfl, h1, h2, h3⟩ := ha
  obtain ⟨B, cb, rfl, k1, k2, k3⟩ := hb
  obtain ⟨n, hn⟩ : ∃ n, n = ss.length := ⟨_, rfl⟩
  rw [← hn] at h1 k1 h3 k3 ⊢
  have hn9 : n ≤ 9223372036854775807 := by simp only [maxLen] at h2; omega
  have HN := Lib.hid hn
  rcases Nat.eq_zero_or_pos n with h0 | h0
  · subst h0
    clear h1 h2 h3 k1 k2 k3 hn hn9 HN
    go_enter Try.func12, Try.ntmps12
    go_wp2_with fail
    go_loopw [5] (fun x wr => x = .int .i64 0 ∧ wr = w) (fun x _ => 0)
    case atStart => exact ⟨rfl, rfl⟩
    case round =>
      obtain ⟨rfl, rfl⟩ := hrel
      go_wp2_with fail
      go_ret
      exact ⟨rfl, Fr.refl _ _⟩
  · obtain ⟨b, off, rfl, hs⟩ := h3 h0
    obtain ⟨b', off', rfl, hs'⟩ := k3 h0
    have HS := Lib.hid (And.intro hs hs')
    clear h1 h2 h3 k1 k2 k3 hn hs hs'
    go_enter Try.func12, Try.ntmps12
    go_wp2_with fail
    go_loopw [5] (fun x wr => ∃ k : Nat, x = .int .i64 k ∧ k ≤ n ∧ Hid (Fr (fun _ => False) w wr)) (fun x _ => n - (intOf x).toNat)
    case atStart => exact ⟨0, rfl, Nat.zero_le _, Lib.hid (Fr.refl _ _)⟩
    case round =>
      obtain ⟨k, rfl, hk, HF⟩ := hrel
      by_cases hlt : k < n
      · obtain ⟨s, hs⟩ : ∃ s, ss[k]? = some s := ⟨_, List.getElem?_eq_getElem (by have := HN.out; omega)⟩
        obtain ⟨hl, hr1⟩ := (HS.out.1.keep HF.out (fun q => q)) k s hs
        obtain ⟨_, hr2⟩ := (HS.out.2.keep HF.out (fun q => q)) k s hs
        have hu := Try.underlying37
        have hsz : (Try.prog.info? 37).map (·.size) = some (cellsB s).length := by rw [infoSector, cellsB_len, hl]
        have hcl : (cellsB s).length = 128 := by rw [cellsB_len, hl]
        have hone := cellsB_one s
        have hneq : ∀ w, (binOp .neq 37 (.agg (cellsB s).toArray) (.agg (cellsB s).toArray)).run Try.prog w = .ok (.bool false) w := fun w => by
          have := sec_neq s s hl hl w
          simpa using this
        have HC : Hid (∀ w', Fr (fun _ => False) wr w' → w'.rangeAt b (off + k * 128) (cellsB s) ∧ w'.rangeAt b' (off' + k * 128) (cellsB s)) := Lib.hid fun w' f => ⟨fun j v hv => cell_new (hr1 j v hv) f, fun j v hv => cell_new (hr2 j v hv) f⟩
        clear hs hl hr1 hr2 hk
        have hi0 : (0 : Int) ≤ (k : Int) := by omega
        have hi1 : (k : Int) < (n : Int) := by omega
        go_wp2_with fail
        refine wp_region_held_drew (S := fun w' => Fr (fun _ => False) wr w') (by kernel_rfl) ((Fr.refl _ _).drew) (fun hS0 => ?_)
        refine anyH_take 0 17 (.slice (some ⟨b, off, none⟩) n ca) rfl rfl (by kernel_rfl) (by kernel_rfl) (by kernel_rfl) (fun _ _ _ h => h) (.inl ⟨by rfl, fun w'' hS => by go_simp⟩) hS0 ?_
        (simp only [List.setIfInBounds_toArray, List.set_cons_zero, List.set_cons_succ])
        refine anyH_take 1 18 (.int .i64 (k : Nat)) rfl rfl (by kernel_rfl) (by kernel_rfl) (by kernel_rfl) (fun _ _ _ h => h) (.inl ⟨by rfl, fun w'' hS => by go_simp⟩) hS0 ?_
        (simp only [List.setIfInBounds_toArray, List.set_cons_zero, List.set_cons_succ])
        refine anyH_take 2 19 (.pointer (some ⟨b, off + k * 128, none⟩)) rfl rfl (by kernel_rfl) (by kernel_rfl) (by kernel_rfl) (fun _ _ _ h => h) (.inl ⟨by rfl, fun w'' hS => by go_simp⟩) hS0 ?_
        (simp only [List.setIfInBounds_toArray, List.set_cons_zero, List.set_cons_succ])
        refine anyH_take 3 20 (.agg (cellsB s).toArray) rfl rfl (by kernel_rfl) (by kernel_rfl) (by kernel_rfl) (fun _ _ _ h => h) (yieldsIf_load_mid (by rfl) _ _ rfl _ _ rfl _ _ (fun w' f => (HC.out w' f).1) hu rfl hsz) hS0 ?_
        (simp only [List.setIfInBounds_toArray, List.set_cons_zero, List.set_cons_succ])
        refine anyH_take 4 21 (.slice (some ⟨b', off', none⟩) n cb) rfl rfl (by kernel_rfl) (by kernel_rfl) (by kernel_rfl) (fun _ _ _ h => h) (.inl ⟨by rfl, fun w'' hS => by go_simp⟩) hS0 ?_
        (simp only [List.setIfInBounds_toArray, List.set_cons_zero, List.set_cons_succ])
        refine anyH_take 5 22 (.int .i64 (k : Nat)) rfl rfl (by kernel_rfl) (by kernel_rfl) (by kernel_rfl) (fun _ _ _ h => h) (.inl ⟨by rfl, fun w'' hS => by go_simp⟩) hS0 ?_
        (simp only [List.setIfInBounds_toArray, List.set_cons_zero, List.set_cons_succ])
        refine anyH_take 6 23 (.pointer (some ⟨b', off' + k * 128, none⟩)) rfl rfl (by kernel_rfl) (by kernel_rfl) (by kernel_rfl) (fun _ _ _ h => h) (.inl ⟨by rfl, fun w'' hS => by go_simp⟩) hS0 ?_
        (simp only [List.setIfInBounds_toArray, List.set_cons_zero, List.set_cons_succ])
        refine anyH_take 7 24 (.agg (cellsB s).toArray) rfl rfl (by kernel_rfl) (by kernel_rfl) (by kernel_rfl) (fun _ _ _ h => h) (yieldsIf_load_mid (by rfl) _ _ rfl _ _ rfl _ _ (fun w' f => (HC.out w' f).2) hu rfl hsz) hS0 ?_
        (simp only [List.setIfInBounds_toArray, List.set_cons_zero, List.set_cons_succ])
        refine anyH_take 8 25 (.bool false) rfl rfl (by kernel_rfl) (by kernel_rfl) (by kernel_rfl) (fun _ _ _ h => h) (.inl ⟨by rfl, fun w'' hS => by go_simp⟩) hS0 ?_
        (simp only [List.setIfInBounds_toArray, List.set_cons_zero, List.set_cons_succ])
        refine wpAnyH_done (by kernel_rfl) ?_ _
        clear hu hsz hcl hone hneq
        go_wp2_with fail
        exact ⟨⟨k + 1, by go_num, by omega, Lib.hid HF.out.drew⟩, by simp [intOf]; omega⟩
      · obtain rfl : k = n := by omega
        clear hlt hk
        go_wp2_with fail
        go_ret
        exact ⟨rfl, HF.out⟩
end Go.Proofs.Ytbnegiiombnnaaa
