/- The call of the landed status: Of. -/
import Derived.Test.YthffnepfnadakaaSqv
namespace Go.Proofs.Ythffnepfnadakaa
open Go.RowKit Go.Shelf

def letLs : List UInt8 := [79, 67, 76, 70, 69, 82, 86, 83, 65]
theorem of_byte : ((List.range 256).all fun n => decide ((Lib.indexByte letLs (UInt8.ofNat n) < 0 ∧ ofSN [UInt8.ofNat n] = 0 ∧ ofSE [UInt8.ofNat n] = 2) ∨ (0 ≤ Lib.indexByte letLs (UInt8.ofNat n) ∧ Lib.indexByte letLs (UInt8.ofNat n) ≤ 8 ∧ (ofSN [UInt8.ofNat n] : Int) = 1 + Lib.indexByte letLs (UInt8.ofNat n) ∧ ofSE [UInt8.ofNat n] = 0))) = true := by decide +kernel
theorem of_c (c : UInt8) : (Lib.indexByte letLs c < 0 ∧ ofSN [c] = 0 ∧ ofSE [c] = 2) ∨ (0 ≤ Lib.indexByte letLs c ∧ Lib.indexByte letLs c ≤ 8 ∧ (ofSN [c] : Int) = 1 + Lib.indexByte letLs c ∧ ofSE [c] = 0) := by
  have := List.all_eq_true.1 of_byte c.toNat (List.mem_range.2 c.toNat_lt)
  rw [UInt8.ofNat_toNat] at this
  exact of_decide_eq_true this
theorem ofs_short {l : List UInt8} (h : l.length ≠ 1) : ofSN l = 0 ∧ ofSE l = 2 := of_none (fun j h1 h2 q => by
  have h9 : j = 1 ∨ j = 2 ∨ j = 3 ∨ j = 4 ∨ j = 5 ∨ j = 6 ∨ j = 7 ∨ j = 8 ∨ j = 9 := by omega
  rw [← q] at h
  rcases h9 with rfl | rfl | rfl | rfl | rfl | rfl | rfl | rfl | rfl <;> exact h rfl)
theorem size_ls (s : ByteArray) : s.size = s.data.toList.length := (Array.length_toList).symm
set_option maxRecDepth 100000 in
theorem pofs_any (s : ByteArray) (w : World) (hm : Mok w) : Calls Try.prog 23 #[.string s] w fun e w' => e = .returned (.tuple #[.int .i64 (ofSN s.data.toList : Nat), .int .i64 (ofSE s.data.toList : Nat)]) ∧ w' = w := by
  by_cases h1 : s.size = 1
  · obtain ⟨c, hc⟩ : ∃ c, s = ⟨#[c]⟩ := by
      obtain ⟨l⟩ := s
      obtain ⟨l⟩ := l
      match l, h1 with
      | [c], _ => exact ⟨c, rfl⟩
    subst hc
    have HI := Lib.hid (Any.strings_Index_one (ρ := Try.layIdx_ren) Try.layIdx ⟨#[79, 67, 76, 70, 69, 82, 86, 83, 65]⟩ c w)
    have hf := of_c c
    obtain ⟨z, hz⟩ : ∃ z, z = Lib.indexByte letLs c := ⟨_, rfl⟩
    rw [← hz] at hf
    rw [show (⟨#[79, 67, 76, 70, 69, 82, 86, 83, 65]⟩ : ByteArray).data.toList = letLs from rfl, ← hz] at HI
    show Calls Try.prog 23 #[.string ⟨#[c]⟩] w fun e w' => e = .returned (.tuple #[.int .i64 (ofSN [c] : Nat), .int .i64 (ofSE [c] : Nat)]) ∧ w' = w
    rcases hf with ⟨hlt, e1, e2⟩ | ⟨hge, h8, e1, e2⟩
    · rw [e1, e2]
      clear hz h1 hm e1 e2
      go_enter Try.func23, Try.ntmps23
      go_wp2_with fail
      refine HI.out.mono ?_
      rintro e w1 ⟨rfl, rfl⟩
      go_wp2_with fail
      go_ret2
      exact ⟨rfl, rfl⟩
    · rw [e1, e2]
      have hnl : ¬ z < 0 := by omega
      have hw1 : IntKind.i64.wrap (1 + z) = 1 + z := wrapI_id (by omega) (by omega)
      clear hz h1 hm e1 e2
      go_enter Try.func23, Try.ntmps23
      go_wp2_with fail
      refine HI.out.mono ?_
      rintro e w1 ⟨rfl, rfl⟩
      go_wp2_with fail
      go_ret2
      exact ⟨rfl, rfl⟩
  · obtain ⟨m, hmc⟩ := hm
    have HI := Lib.hid (Any.strings_Index (ρ := Try.layIdx_ren) Try.layIdx ⟨#[79, 67, 76, 70, 69, 82, 86, 83, 65]⟩ s m w (by decide) hmc)
    obtain ⟨z, hz⟩ : ∃ z, z = Lib.index (⟨#[79, 67, 76, 70, 69, 82, 86, 83, 65]⟩ : ByteArray).data.toList s.data.toList := ⟨_, rfl⟩
    rw [← hz] at HI
    have hs := ofs_short (l := s.data.toList) (by rw [← size_ls]; exact h1)
    rw [hs.1, hs.2]
    have hne : ((s.size : Int) != 1) = true := by rw [bne_iff_ne]; omega
    clear hz h1 hmc hs
    go_enter Try.func23, Try.ntmps23
    go_wp2_with fail
    refine HI.out.mono ?_
    rintro e w1 ⟨rfl, rfl⟩
    go_wp2_with fail
    go_ret2
    exact ⟨rfl, rfl⟩
end Go.Proofs.Ythffnepfnadakaa
