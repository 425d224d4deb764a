/- What the calls of number answer; couponlaw10's known rows, of that. -/
import Derived.Test.YtchofmncinbmcaaNre
namespace Go.Proofs.Ytchofmncinbmcaa
open Go.RowKit

/-- The calls of number, each by what the chapter says of it. (A claim of each of them is a theorem of its own: NumP is their bundle, no premise of a law that is handed in.) -/
structure NumP : Prop where
  make : ∀ (c s : Int) (w : World), Calls Try.prog 9 #[.int .i64 c, .int .i64 s] w fun e w' => e = .returned (.tuple #[.int .u64 (makeN c s : Nat), .int .i64 (makeE c s)]) ∧ Fr (fun _ => False) w w'
  check : ∀ (n : Nat) (w : World), n < 18446744073709551616 → Calls Try.prog 12 #[.int .u64 n] w fun e w' => e = .returned (.int .i64 (chkE n : Nat)) ∧ Fr (fun _ => False) w w'
  carrier : ∀ (n : Nat) (w : World), n < 18446744073709551616 → Calls Try.prog 13 #[.int .u64 n] w fun e w' => e = .returned (.int .i64 (carN n : Nat)) ∧ Fr (fun _ => False) w w'
  serial : ∀ (n : Nat) (w : World), n < 18446744073709551616 → Calls Try.prog 14 #[.int .u64 n] w fun e w' => e = .returned (.int .i64 (serN n : Nat)) ∧ Fr (fun _ => False) w w'
  text : ∀ (n : Nat) (w : World), n < 18446744073709551616 → Calls Try.prog 15 #[.int .u64 n] w fun e w' => ∃ s : ByteArray, e = .returned (.string s) ∧ s.data.toList = (if chkE n = 0 then txt n else []) ∧ Fr (fun _ => False) w w'
  of_ : ∀ (s : ByteArray) (w : World), s.size ≤ 1000 → Calls Try.prog 17 #[.string s] w fun e w' => e = .returned (.tuple #[.int .u64 (ofN s.data.toList : Nat), .int .i64 (ofE s.data.toList : Nat)]) ∧ Fr (fun _ => False) w w'
theorem nknown (P : NumP) (w : World) : Calls Try.prog 11 #[] w fun e w' => e = .returned (.bool true) ∧ Fr (fun _ => False) w w' := by
  have h1 := P.make 123 1 w
  rw [show makeN 123 1 = 1230000000014 from by decide, show makeE 123 1 = 0 from by decide] at h1
  have H1 := Lib.hid h1
  have h2 := fun W => P.check 1230000000013 W (by decide)
  simp only [show chkE 1230000000013 = 11 from by decide] at h2
  have H2 := Lib.hid h2
  clear h1 h2
  go_enter Try.func11, Try.ntmps11
  go_wp2_with fail
  refine H1.out.mono ?_
  rintro e w1 ⟨rfl, f1⟩
  have HF := Lib.hid f1
  clear f1 H1
  go_wp2_with fail
  refine (H2.out w1).mono ?_
  rintro e w2 ⟨rfl, f2⟩
  have HG := Lib.hid (HF.out.trans f2 (fun _ _ q => q))
  clear f2 H2
  go_wp2_with fail
  go_ret
  exact ⟨rfl, HG.out⟩
end Go.Proofs.Ytchofmncinbmcaa
