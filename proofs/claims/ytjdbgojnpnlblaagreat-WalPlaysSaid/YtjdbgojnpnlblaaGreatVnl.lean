/- wal: a disk that is not there. -/
import Derived.Test.YtjdbgojnpnlblaaGreatVkn
namespace Go.Proofs.YtjdbgojnpnlblaaGreat
open Go.RowKit

section
variable {w : World} {p : Value}
theorem fits_none (hN : Calls Tryz.prog 58 #[p] w fun e w' => e = .returned (.int .i64 0) ∧ w = w') (z : Int) : Calls Tryz.prog 35 #[p, .int .i64 z] w fun e w' => e = .returned (.int .i64 1) ∧ w = w' := by
  have HS := Lib.hid hN
  clear hN
  go_enter Tryz.func35, Tryz.ntmps35
  go_wp2_with (go_at_call 58; refine HS.out.mono ?_; rintro e w' ⟨rfl, rfl⟩)
  go_ret
  exact ⟨rfl, rfl⟩
theorem format_none (hN : Calls Tryz.prog 58 #[p] w fun e w' => e = .returned (.int .i64 0) ∧ w = w') (z : Int) : Calls Tryz.prog 12 #[p, .int .i64 z] w fun e w' => e = .returned (.int .i64 1) ∧ w = w' := by
  have HS := Lib.hid (fits_none hN z)
  clear hN
  go_enter Tryz.func12, Tryz.ntmps12
  go_wp2_with (go_at_call 35; refine HS.out.mono ?_; rintro e w' ⟨rfl, rfl⟩)
  go_ret
  exact ⟨rfl, rfl⟩
theorem open_none (hN : Calls Tryz.prog 58 #[p] w fun e w' => e = .returned (.int .i64 0) ∧ w = w') (z : Int) : Calls Tryz.prog 8 #[p, .int .i64 z] w fun e w' => e = .returned (.tuple #[.pointer none, .slice none 0 0, .int .i64 1]) ∧ w = w' := by
  have HS := Lib.hid (fits_none hN z)
  clear hN
  go_enter Tryz.func8, Tryz.ntmps8
  go_wp2_with fail
  refine HS.out.mono ?_
  rintro e w1 ⟨rfl, rfl⟩
  go_wp2_with fail
  refine bodyPost_ret (results_tmp3 rfl _ _ _) rfl ⟨rfl, rfl⟩
end
end Go.Proofs.YtjdbgojnpnlblaaGreat
