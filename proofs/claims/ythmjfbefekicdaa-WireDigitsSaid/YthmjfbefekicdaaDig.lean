/- wire.Digits. -/
import Derived.Test.YthmjfbefekicdaaBld
import Derived.Test.YthmjfbefekicdaaHex
namespace Go.Proofs.Ythmjfbefekicdaa
open Go.RowKit

theorem Fr.of_below_at {B : Nat} {a b : World} (h : Below B a b) : Fr (fun k => B ≤ k) a b := ⟨h.os, h.tape, h.output, h.size, fun i _ hn => h.block i (by omega)⟩

theorem hexStr (m : Nat) (h : m < (⟨#[48, 49, 50, 51, 52, 53, 54, 55, 56, 57, 97, 98, 99, 100, 101, 102]⟩ : ByteArray).size) : (⟨#[48, 49, 50, 51, 52, 53, 54, 55, 56, 57, 97, 98, 99, 100, 101, 102]⟩ : ByteArray)[m]'h = hexd m := by
  have hm : m < 16 := h
  have h' : m = 0 ∨ m = 1 ∨ m = 2 ∨ m = 3 ∨ m = 4 ∨ m = 5 ∨ m = 6 ∨ m = 7 ∨ m = 8 ∨ m = 9 ∨ m = 10 ∨ m = 11 ∨ m = 12 ∨ m = 13 ∨ m = 14 ∨ m = 15 := by omega
  rcases h' with rfl | rfl | rfl | rfl | rfl | rfl | rfl | rfl | rfl | rfl | rfl | rfl | rfl | rfl | rfl | rfl <;> rfl

set_option maxHeartbeats 2000000 in
set_option maxRecDepth 100000 in
theorem dig_any {w : World} {A : Option Addr} {c : Nat} {l : List UInt8} (hr : Rd w A l.length l) (hl : l.length ≤ 3000) :
    Calls Try.prog 35 #[.slice A l.length c] w fun e w' => e = .returned (.string ⟨(hexs l).toArray⟩) ∧ Fr (fun _ => False) w w' := by
  have HR := Lib.hid hr
  have hstart : Bu (w.alloc (.cells #[.pointer none, .slice none 0 0] 97)) w.heap.size w.heap.size (.slice none 0 0) [] false := ⟨Blk.new _ _ _, World.ownsRow_nil _ _ _ _, by simp⟩
  have HS := Lib.hid hstart
  clear hr hstart
  go_enter Try.func35, Try.ntmps35
  go_wp2_with fail
  go_loopw [8] (fun i wr => ∃ (k : Nat) (v : Value) (f : Bool), i = .int .i64 k ∧ k ≤ l.length ∧ Hid (Bu wr w.heap.size w.heap.size v (hexs (l.take k)) f) ∧ Hid (k = 0 → v = .slice none 0 0) ∧ Hid (Fr (fun _ => False) w wr)) (fun i _ => l.length - (intOf i).toNat)
  case atStart => exact ⟨0, _, false, rfl, Nat.zero_le _, Lib.hid HS.out, Lib.hid (fun _ => rfl), Lib.hid ((Fr.refl _ _).alloc _)⟩
  case round =>
    obtain ⟨k, v, f, rfl, hk, HO, HV, HF⟩ := hrel
    by_cases hlt : k < l.length
    · have HRD := Lib.hid (HR.out.keep HF.out (fun _ _ => id))
      obtain ⟨ad, x, rfl, hx, hcell⟩ := HRD.out.at_ hlt
      have hx' := x.toNat_lt
      have HX := Lib.hid hx
      clear hx
      have hlk := Lib.hid (hexs_len (l.take k))
      have hlt' : (l.take k).length = k := by rw [List.length_take]; omega
      have HLK : Hid ((hexs (l.take k)).length + 2 ≤ 140737488355328) := Lib.hid (by rw [hlk.out, hlt']; omega)
      clear hlt'
      go_wp2_with fail
      refine (wbyte_any HO.out _ (by have := HLK.out; omega)).mono ?_
      rintro e w2 ⟨rfl, v2, h2, f2, b2⟩
      rw [hexStr] at h2
      have hF2 : Fr (fun _ => False) w w2 := HF.out.trans f2 (fun i hi hk => by
        rcases hk with rfl | hk
        · omega
        · have := (HO.out.2.1.lt i hk).1
          omega)
      have H2 := Lib.hid (And.intro h2 (And.intro hF2 b2))
      clear h2 hF2 f2 b2
      go_wp2_with fail
      refine (wbyte_any H2.out.1 _ (by have := HLK.out; simp; omega)).mono ?_
      rintro e w3 ⟨rfl, v3, h3, f3, b3⟩
      rw [hexStr] at h3
      have hF3 : Fr (fun _ => False) w w3 := H2.out.2.1.trans f3 (fun i hi hk => by
        rcases hk with rfl | hk
        · omega
        · have := (H2.out.1.2.1.lt i hk).1
          omega)
      have hts : hexs (l.take (k + 1)) = hexs (l.take k) ++ [hexd (x.toNat / 16)] ++ [hexd (x.toNat % 16)] := by
        have e : l.take (k + 1) = l.take k ++ [x] := by
          rw [List.take_succ_eq_append_getElem hlt]
          have := HX.out
          rw [List.getElem?_eq_getElem hlt] at this
          injection this with this
          rw [this]
        rw [e, hexs_app, List.append_assoc]
        rfl
      rw [← hts] at h3
      have H3 := Lib.hid (And.intro h3 hF3)
      clear h3 hF3 f3 b3 hts
      go_wp2_with fail
      exact ⟨⟨k + 1, v3, true, by go_num, by omega, Lib.hid H3.out.1, Lib.hid (fun h => by omega), Lib.hid H3.out.2⟩, by simp [intOf]; omega⟩
    · obtain rfl : k = l.length := by omega
      have ho := HO.out
      rw [List.take_length] at ho
      have H := Lib.hid ho
      clear ho hlt
      by_cases h0 : l.length = 0
      · have hv := HV.out h0
        subst hv
        have hnil : l = [] := List.eq_nil_of_length_eq_zero h0
        subst hnil
        go_wp2_with fail
        refine (bstr_nil H.out.1).mono ?_
        rintro e w2 ⟨rfl, hb⟩
        have HB := Lib.hid hb
        clear hb
        go_wp2
        go_ret
        exact ⟨rfl, HF.out.trans (Fr.of_below HB.out) (fun _ _ => id)⟩
      · go_wp2_with fail
        have hne : hexs l ≠ [] := by
          intro q
          have := hexs_len l
          rw [q] at this
          simp at this
          omega
        refine (bstr_ok H.out hne).mono ?_
        rintro e w2 ⟨rfl, hb⟩
        have HB := Lib.hid hb
        clear hb
        go_wp2
        go_ret
        exact ⟨rfl, HF.out.trans (Fr.of_below_at HB.out) (fun i hi q => by omega)⟩
end Go.Proofs.Ythmjfbefekicdaa
