/- wal: a disk that is not there. -/
import Derived.Test.YtobnfadcffhfdaaVkn
namespace Go.Proofs.Ytobnfadcffhfdaa
open Go.RowKit

section
variable {w : World} {p : Value}
theorem fits_none (hN : Calls Try.prog 63 #[p] w fun e w' => e = .returned (.int .i64 0) ∧ w = w') (z : Int) : Calls Try.prog 41 #[p, .int .i64 z] w fun e w' => e = .returned (.int .i64 1) ∧ w = w' := by
  have HS := Lib.hid hN
  clear hN
  go_enter Try.func41, Try.ntmps41
  go_wp2_with (go_at_call 63; refine HS.out.mono ?_; rintro e w' ⟨rfl, rfl⟩)
  go_ret
  exact ⟨rfl, rfl⟩
theorem format_none (hN : Calls Try.prog 63 #[p] w fun e w' => e = .returned (.int .i64 0) ∧ w = w') (z : Int) : Calls Try.prog 18 #[p, .int .i64 z] w fun e w' => e = .returned (.int .i64 1) ∧ w = w' := by
  have HS := Lib.hid (fits_none hN z)
  clear hN
  go_enter Try.func18, Try.ntmps18
  go_wp2_with (go_at_call 41; refine HS.out.mono ?_; rintro e w' ⟨rfl, rfl⟩)
  go_ret
  exact ⟨rfl, rfl⟩
theorem open_none (hN : Calls Try.prog 63 #[p] w fun e w' => e = .returned (.int .i64 0) ∧ w = w') (z : Int) : Calls Try.prog 22 #[p, .int .i64 z] w fun e w' => e = .returned (.tuple #[.pointer none, .slice none 0 0, .int .i64 1]) ∧ w = w' := by
  have HS := Lib.hid (fits_none hN z)
  clear hN
  go_enter Try.func22, Try.ntmps22
  go_wp2_with fail
  refine HS.out.mono ?_
  rintro e w1 ⟨rfl, rfl⟩
  go_wp2_with fail
  refine bodyPost_ret (results_tmp3 rfl _ _ _) rfl ⟨rfl, rfl⟩
end
end Go.Proofs.Ytobnfadcffhfdaa
