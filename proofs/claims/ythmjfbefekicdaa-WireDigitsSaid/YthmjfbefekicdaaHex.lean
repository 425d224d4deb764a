/- Bytes' digits; couponref01.Digits. -/
import Derived.Test.YthmjfbefekicdaaCut
import Derived.Test.YthmjfbefekicdaaEnd
namespace Go.Proofs.Ythmjfbefekicdaa
open Go.RowKit

/-- A digit of base 16, two for a byte, all of some bytes. -/
def hexd (n : Nat) : UInt8 := UInt8.ofNat (if n < 10 then 48 + n else 87 + n)
def hexs : List UInt8 → List UInt8
  | [] => []
  | c :: l => hexd (c.toNat / 16) :: hexd (c.toNat % 16) :: hexs l
theorem hexs_len : ∀ l, (hexs l).length = 2 * l.length
  | [] => rfl
  | c :: l => by simp [hexs, hexs_len l]; omega
theorem hexs_app : ∀ l m, hexs (l ++ m) = hexs l ++ hexs m
  | [], m => rfl
  | c :: l, m => by simp [hexs, hexs_app l m]
theorem hexs_even : ∀ (l : List UInt8) (k : Nat) (c : UInt8), l[k]? = some c → (hexs l)[2 * k]? = some (hexd (c.toNat / 16)) ∧ (hexs l)[2 * k + 1]? = some (hexd (c.toNat % 16))
  | [], k, c, h => by simp at h
  | x :: l, 0, c, h => by
    obtain rfl : x = c := by simpa using h
    exact ⟨rfl, rfl⟩
  | x :: l, k + 1, c, h => by
    have := hexs_even l k c (by simpa using h)
    rw [show 2 * (k + 1) = 2 * k + 1 + 1 by omega]
    simpa [hexs] using this
/-- The digit at a place. -/
theorem hexs_at (l : List UInt8) (i : Nat) (c : UInt8) (h : l[i / 2]? = some c) : (hexs l)[i]? = some (hexd (if i % 2 = 1 then c.toNat % 16 else c.toNat / 16)) := by
  obtain ⟨h1, h2⟩ := hexs_even l (i / 2) c h
  by_cases hi : i % 2 = 1
  · rw [if_pos hi]
    rw [show 2 * (i / 2) + 1 = i by omega] at h2
    exact h2
  · rw [if_neg hi]
    rw [show 2 * (i / 2) = i by omega] at h1
    exact h1
theorem hexs_take (l : List UInt8) (i : Nat) (c : UInt8) (h : l[i / 2]? = some c) : (hexs l).take (i + 1) = (hexs l).take i ++ [hexd (if i % 2 = 1 then c.toNat % 16 else c.toNat / 16)] := by
  have h' := hexs_at l i c h
  have hi : i < (hexs l).length := by
    rcases Nat.lt_or_ge i (hexs l).length with q | q
    · exact q
    · rw [List.getElem?_eq_none q] at h'; cases h'
  rw [List.take_succ_eq_append_getElem hi]
  rw [List.getElem?_eq_getElem hi] at h'
  injection h' with h'
  rw [h']

theorem hexd_toNat (n : Nat) (h : n < 16) : (hexd n).toNat = if n < 10 then 48 + n else 87 + n := by
  unfold hexd
  rw [UInt8.toNat_ofNat']
  split <;> omega

set_option maxHeartbeats 2000000 in
set_option maxRecDepth 100000 in
theorem rdig_any {w : World} {A : Option Addr} {c : Nat} {l : List UInt8} (hr : Rd w A l.length l) (hl : l.length ≤ 3000) :
    Calls Try.prog 37 #[.slice A l.length c] w fun e w' => e = .returned (.string ⟨(hexs l).toArray⟩) ∧ Fr (fun _ => False) w w' := by
  obtain ⟨i0, hi, hz0, hz1, hz2⟩ := info_parts infoU8
  have HR := Lib.hid hr
  have hhl := Lib.hid (hexs_len l)
  clear hr
  go_enter Try.func37, Try.ntmps37
  go_wp2_with fail
  go_loopw [3, 4] (fun o i wr => ∃ (k : Nat) (v : Value), v = o ∧ i = .int .i64 k ∧ k ≤ 2 * l.length ∧ Hid (wr.ownsRow w.heap.size 5 1 v ((hexs l).take k).length (cellsB ((hexs l).take k))) ∧ Fr (fun _ => False) w wr) (fun _ i _ => 2 * l.length - (intOf i).toNat)
  case atStart => exact ⟨0, _, rfl, rfl, Nat.zero_le _, Lib.hid (World.ownsRow_nil _ _ _ _), Fr.refl _ _⟩
  case round =>
    obtain ⟨k, v, rfl, rfl, hk, HO, hf⟩ := hrel
    have HF := Lib.hid hf
    have HRD := Lib.hid (HR.out.keep hf (fun _ _ => id))
    clear hf
    by_cases hlt : k < 2 * l.length
    · obtain ⟨ad, x, rfl, hx, hcell⟩ := HRD.out.at_ (k := k / 2) (by omega)
      have hts := Lib.hid (hexs_take l k x hx)
      have hx' := x.toNat_lt
      clear hx
      have HLN : Hid (((hexs l).take k).length + 1 ≤ 140737488355328) := Lib.hid (by rw [List.length_take, hhl.out]; have := Nat.min_le_left k (2 * l.length); omega)
      have HZ : Hid (∀ o : Obj, w.heap.size ≤ (wr.alloc o).heap.size) := Lib.hid (fun o => by have := HF.out.size; simp; omega)
      by_cases hpar : k % 2 = 1
      · rw [if_pos hpar] at hts
        by_cases hm : x.toNat % 16 < 10
        · have HX : Hid (((hexd (x.toNat % 16)).toNat : Int) = 48 + (((x.toNat % 16) : Nat) : Int)) := Lib.hid (by rw [hexd_toNat _ (by omega)]; split <;> omega)
          have HR1 : Hid (∀ z : Int, z = ((hexd (x.toNat % 16)).toNat : Int) → Rd (wr.alloc (.cells #[.int .u8 z] 5)) (some ⟨wr.heap.size, 0, none⟩) 1 [hexd (x.toNat % 16)]) := Lib.hid (by rintro z rfl; exact Rd.one wr 5 _)
          go_wp2_with (at_builtin; refine wpList_append_bytes _ rfl (.tmp 30) (.tmp 33) 26 rfl w.heap.size 5 i0 (.int .u8 0) Try.underlying26 hi hz0 hz1 hz2 rfl v ((hexs l).take k) [hexd (x.toNat % 16)] rfl (World.ownsRow.alloc HO.out _) (some ⟨wr.heap.size, 0, none⟩) 1 1 rfl (HR1.out _ (by have := HX.out; omega)) (HLN.out) (HZ.out _) ?_; intro v' w' hown hgrow hat)
          exact ⟨⟨k + 1, v', rfl, by go_num, by omega, Lib.hid (by rw [hts.out]; exact hown), (HF.out.alloc _).grown hgrow (fun k hk => .inr (HO.out.lt k hk).1)⟩, by simp [intOf]; omega⟩
        · have HX : Hid (((hexd (x.toNat % 16)).toNat : Int) = 87 + (((x.toNat % 16) : Nat) : Int)) := Lib.hid (by rw [hexd_toNat _ (by omega)]; split <;> omega)
          have HR1 : Hid (∀ z : Int, z = ((hexd (x.toNat % 16)).toNat : Int) → Rd (wr.alloc (.cells #[.int .u8 z] 5)) (some ⟨wr.heap.size, 0, none⟩) 1 [hexd (x.toNat % 16)]) := Lib.hid (by rintro z rfl; exact Rd.one wr 5 _)
          go_wp2_with (at_builtin; refine wpList_append_bytes _ rfl (.tmp 35) (.tmp 39) 26 rfl w.heap.size 5 i0 (.int .u8 0) Try.underlying26 hi hz0 hz1 hz2 rfl v ((hexs l).take k) [hexd (x.toNat % 16)] rfl (World.ownsRow.alloc HO.out _) (some ⟨wr.heap.size, 0, none⟩) 1 1 rfl (HR1.out _ (by have := HX.out; omega)) (HLN.out) (HZ.out _) ?_; intro v' w' hown hgrow hat)
          exact ⟨⟨k + 1, v', rfl, by go_num, by omega, Lib.hid (by rw [hts.out]; exact hown), (HF.out.alloc _).grown hgrow (fun k hk => .inr (HO.out.lt k hk).1)⟩, by simp [intOf]; omega⟩
      · rw [if_neg hpar] at hts
        by_cases hm : x.toNat / 16 < 10
        · have HX : Hid (((hexd (x.toNat / 16)).toNat : Int) = 48 + (((x.toNat / 16) : Nat) : Int)) := Lib.hid (by rw [hexd_toNat _ (by omega)]; split <;> omega)
          have HR1 : Hid (∀ z : Int, z = ((hexd (x.toNat / 16)).toNat : Int) → Rd (wr.alloc (.cells #[.int .u8 z] 5)) (some ⟨wr.heap.size, 0, none⟩) 1 [hexd (x.toNat / 16)]) := Lib.hid (by rintro z rfl; exact Rd.one wr 5 _)
          go_wp2_with (at_builtin; refine wpList_append_bytes _ rfl (.tmp 30) (.tmp 33) 26 rfl w.heap.size 5 i0 (.int .u8 0) Try.underlying26 hi hz0 hz1 hz2 rfl v ((hexs l).take k) [hexd (x.toNat / 16)] rfl (World.ownsRow.alloc HO.out _) (some ⟨wr.heap.size, 0, none⟩) 1 1 rfl (HR1.out _ (by have := HX.out; omega)) (HLN.out) (HZ.out _) ?_; intro v' w' hown hgrow hat)
          exact ⟨⟨k + 1, v', rfl, by go_num, by omega, Lib.hid (by rw [hts.out]; exact hown), (HF.out.alloc _).grown hgrow (fun k hk => .inr (HO.out.lt k hk).1)⟩, by simp [intOf]; omega⟩
        · have HX : Hid (((hexd (x.toNat / 16)).toNat : Int) = 87 + (((x.toNat / 16) : Nat) : Int)) := Lib.hid (by rw [hexd_toNat _ (by omega)]; split <;> omega)
          have HR1 : Hid (∀ z : Int, z = ((hexd (x.toNat / 16)).toNat : Int) → Rd (wr.alloc (.cells #[.int .u8 z] 5)) (some ⟨wr.heap.size, 0, none⟩) 1 [hexd (x.toNat / 16)]) := Lib.hid (by rintro z rfl; exact Rd.one wr 5 _)
          go_wp2_with (at_builtin; refine wpList_append_bytes _ rfl (.tmp 35) (.tmp 39) 26 rfl w.heap.size 5 i0 (.int .u8 0) Try.underlying26 hi hz0 hz1 hz2 rfl v ((hexs l).take k) [hexd (x.toNat / 16)] rfl (World.ownsRow.alloc HO.out _) (some ⟨wr.heap.size, 0, none⟩) 1 1 rfl (HR1.out _ (by have := HX.out; omega)) (HLN.out) (HZ.out _) ?_; intro v' w' hown hgrow hat)
          exact ⟨⟨k + 1, v', rfl, by go_num, by omega, Lib.hid (by rw [hts.out]; exact hown), (HF.out.alloc _).grown hgrow (fun k hk => .inr (HO.out.lt k hk).1)⟩, by simp [intOf]; omega⟩
    · obtain rfl : k = 2 * l.length := by omega
      have ho := HO.out
      rw [← hhl.out, List.take_length] at ho
      obtain ⟨Ao, co, rfl, _, _, _, hro⟩ := own_rd ho
      have hcv := conv_string (P := Try.prog) 26 9 5 (c := co) hro Try.underlying26 Try.underlying5 Try.underlying9
      clear ho hro
      go_wp2
      go_ret
      exact ⟨rfl, HF.out⟩
end Go.Proofs.Ythmjfbefekicdaa
