/-
  No cell of these rows narrows 'for every input' (looked for: loops, veiled, ifaces, maps, wideKeys, modest, calm, conditions, laid).
  DERIVED. THE GIVEN ROWS OF THIS SEAT. 4 by the template 'for every input the law returns true; each argument reads behind the call as it read before'; 0 by the template 'total and deterministic' (their statements: YtcnlgbjkjlbmbaaGreatTotals.lean).
  GIVEN WITH THE SEED: the statements are not yours to turn. If you find one false, say at which input.
  Laid BY PROGRAM, IN A SANDBOX (cutbox-rows.mjs): the forced cells as the released guide's own fill.sh prints them over the translation 37cf4dce60871826… (all of the seat's roots in one cut). By AI agents, Wed Nov 11 2026. No macro, syntax, notation, axiom, sorry.
-/
import Derived.Test.YtcnlgbjkjlbmbaaGreatChecked
import GoSem.Claim
import GoSem.ClaimJoined
import GoSem.ClaimMapViews
import Derived.JoinedTies
import Derived.KernelRfl
namespace Go.Proofs.YtcnlgbjkjlbmbaaGreat
/- THE CELL 'sum', in the pinned program and in every row, IS THE sha256 OF THE DUMP (.gsa) THAT YtcnlgbjkjlbmbaaGreatProg.lean LOADS. Nothing in Lean hashes anything: it is a label: what it is worth is what the hold of that sum in a sandbox is worth. -/
noncomputable def Tryz.pinned : Pinned := { name := "ytcnlgbjkjlbmbaagreat", sum := "37cf4dce608718263eb8dcd59b4ff4a2347e9426a8ac45925357fd4976ad2716", checked := Tryz.checked }
namespace Rows
def none {H : Type} : Left H := { results := [], args := [] }

/-- 'couponlaw06.PoolLasts': WHATEVER THE INPUT: true; the input reads as it did. -/
def poolLastsSpec : ChangeSpec := { name := "poolLasts", fn := fun _ => fun
  | [d1, d2, d3, d4] => { results := [.lit (.bool true)], args := [d1, d2, d3, d4] }
  | _ => none }
def poolLastsRow : OpenClaim := { program := "ytcnlgbjkjlbmbaagreat", sum := "37cf4dce608718263eb8dcd59b4ff4a2347e9426a8ac45925357fd4976ad2716", func := "coupon/couponlaw06.PoolLasts", spec := "poolLasts", unfollowed := true, recurses := true, apart := false }
def PoolLastsSaid : Prop := poolLastsRow.holds Tryz.pinned (OpenSpec.ofChange poolLastsSpec)

/-- ITS FALSE NEIGHBOUR: 'it returns false'. Refute it at one input. -/
def poolLastsWrong : ChangeSpec := { name := "poolLasts", fn := fun _ => fun
  | [d1, d2, d3, d4] => { results := [.lit (.bool false)], args := [d1, d2, d3, d4] }
  | _ => none }
def PoolLastsWrongFalsely : Prop := poolLastsRow.holds Tryz.pinned (OpenSpec.ofChange poolLastsWrong)

/-- 'couponlaw06.PoolFrames': WHATEVER THE INPUT: true; the input reads as it did. -/
def poolFramesSpec : ChangeSpec := { name := "poolFrames", fn := fun _ => fun
  | [d1, d2, d3, d4, d5] => { results := [.lit (.bool true)], args := [d1, d2, d3, d4, d5] }
  | _ => none }
def poolFramesRow : OpenClaim := { program := "ytcnlgbjkjlbmbaagreat", sum := "37cf4dce608718263eb8dcd59b4ff4a2347e9426a8ac45925357fd4976ad2716", func := "coupon/couponlaw06.PoolFrames", spec := "poolFrames", unfollowed := true, recurses := true, apart := false }
def PoolFramesSaid : Prop := poolFramesRow.holds Tryz.pinned (OpenSpec.ofChange poolFramesSpec)

/-- ITS FALSE NEIGHBOUR: 'it returns false'. Refute it at one input. -/
def poolFramesWrong : ChangeSpec := { name := "poolFrames", fn := fun _ => fun
  | [d1, d2, d3, d4, d5] => { results := [.lit (.bool false)], args := [d1, d2, d3, d4, d5] }
  | _ => none }
def PoolFramesWrongFalsely : Prop := poolFramesRow.holds Tryz.pinned (OpenSpec.ofChange poolFramesWrong)

/-- 'couponlaw06.PoolLogs': WHATEVER THE INPUT: true; the input reads as it did. -/
def poolLogsSpec : ChangeSpec := { name := "poolLogs", fn := fun _ => fun
  | [d1, d2, d3, d4] => { results := [.lit (.bool true)], args := [d1, d2, d3, d4] }
  | _ => none }
def poolLogsRow : OpenClaim := { program := "ytcnlgbjkjlbmbaagreat", sum := "37cf4dce608718263eb8dcd59b4ff4a2347e9426a8ac45925357fd4976ad2716", func := "coupon/couponlaw06.PoolLogs", spec := "poolLogs", unfollowed := true, recurses := true, apart := false }
def PoolLogsSaid : Prop := poolLogsRow.holds Tryz.pinned (OpenSpec.ofChange poolLogsSpec)

/-- ITS FALSE NEIGHBOUR: 'it returns false'. Refute it at one input. -/
def poolLogsWrong : ChangeSpec := { name := "poolLogs", fn := fun _ => fun
  | [d1, d2, d3, d4] => { results := [.lit (.bool false)], args := [d1, d2, d3, d4] }
  | _ => none }
def PoolLogsWrongFalsely : Prop := poolLogsRow.holds Tryz.pinned (OpenSpec.ofChange poolLogsWrong)

/-- 'couponlaw06.PoolNil': WHATEVER THE INPUT: true; the input reads as it did. -/
def poolNilSpec : ChangeSpec := { name := "poolNil", fn := fun _ => fun
  | [] => { results := [.lit (.bool true)], args := [] }
  | _ => none }
def poolNilRow : OpenClaim := { program := "ytcnlgbjkjlbmbaagreat", sum := "37cf4dce608718263eb8dcd59b4ff4a2347e9426a8ac45925357fd4976ad2716", func := "coupon/couponlaw06.PoolNil", spec := "poolNil", unfollowed := true, recurses := true, apart := false }
def PoolNilSaid : Prop := poolNilRow.holds Tryz.pinned (OpenSpec.ofChange poolNilSpec)

/-- ITS FALSE NEIGHBOUR: 'it returns false'. Refute it at one input. -/
def poolNilWrong : ChangeSpec := { name := "poolNil", fn := fun _ => fun
  | [] => { results := [.lit (.bool false)], args := [] }
  | _ => none }
def PoolNilWrongFalsely : Prop := poolNilRow.holds Tryz.pinned (OpenSpec.ofChange poolNilWrong)

/- THE SECOND FORM. 'bulk': how many values and letters a reading holds, each counted each time it is reached (what is shared counts as often as it is met; a slice's spare places count too). A statement '..UptoSaid' is the law's where the arguments, and the package variables that the reading takes, are together of bulk at most 1048576: NARROWER than '..Said'. Prove '..Said' where nothing that the law and all that it calls make is longer than what came in: it says more and counts as full. Else prove '..UptoSaid'. A law counts once. -/
mutual
def uptoBulk {H : Type} : DataW H → Nat
  | .lit (.string bytes) => bytes.length + 1
  | .lit _ => 1
  | .nil => 1
  | .ptr d => uptoBulk d + 1
  | .slice elems spare => uptoBulkAll elems + uptoBulkAll spare + 1
  | .agg parts => uptoBulkAll parts + 1
  | .iface _ d => uptoBulk d + 1
  | .map entries => uptoBulkEntries entries + 1
  | .held _ => 1
def uptoBulkAll {H : Type} : List (DataW H) → Nat
  | [] => 0
  | d :: r => uptoBulk d + uptoBulkAll r
def uptoBulkEntries {H : Type} : List (Lit × DataW H) → Nat
  | [] => 0
  | x :: r => uptoBulkEntry x + uptoBulkEntries r
def uptoBulkEntry {H : Type} : Lit × DataW H → Nat
  | (.string bytes, d) => bytes.length + uptoBulk d + 1
  | (_, d) => uptoBulk d + 1
 end
def uptoSmall : (H : Type) → List (DataW H) → Bool := fun _ ds => decide (uptoBulkAll ds ≤ 1048576)
def OpenSpec.upto (s : _root_.Go.ChangeSpec) : _root_.Go.OpenSpec := { _root_.Go.OpenSpec.ofChange s with cond := some uptoSmall }

/-- 'couponlaw06.PoolLasts', WHERE WHAT IT READS IS OF BULK AT MOST 1048576: true; the input reads as it did. -/
def poolLastsUptoRow : OpenClaim := { program := "ytcnlgbjkjlbmbaagreat", sum := "37cf4dce608718263eb8dcd59b4ff4a2347e9426a8ac45925357fd4976ad2716", func := "coupon/couponlaw06.PoolLasts", spec := "poolLasts", unfollowed := true, recurses := true, apart := false, narrowed := true }
def PoolLastsUptoSaid : Prop := poolLastsUptoRow.holds Tryz.pinned (OpenSpec.upto poolLastsSpec)

/-- 'couponlaw06.PoolFrames', WHERE WHAT IT READS IS OF BULK AT MOST 1048576: true; the input reads as it did. -/
def poolFramesUptoRow : OpenClaim := { program := "ytcnlgbjkjlbmbaagreat", sum := "37cf4dce608718263eb8dcd59b4ff4a2347e9426a8ac45925357fd4976ad2716", func := "coupon/couponlaw06.PoolFrames", spec := "poolFrames", unfollowed := true, recurses := true, apart := false, narrowed := true }
def PoolFramesUptoSaid : Prop := poolFramesUptoRow.holds Tryz.pinned (OpenSpec.upto poolFramesSpec)

/-- 'couponlaw06.PoolLogs', WHERE WHAT IT READS IS OF BULK AT MOST 1048576: true; the input reads as it did. -/
def poolLogsUptoRow : OpenClaim := { program := "ytcnlgbjkjlbmbaagreat", sum := "37cf4dce608718263eb8dcd59b4ff4a2347e9426a8ac45925357fd4976ad2716", func := "coupon/couponlaw06.PoolLogs", spec := "poolLogs", unfollowed := true, recurses := true, apart := false, narrowed := true }
def PoolLogsUptoSaid : Prop := poolLogsUptoRow.holds Tryz.pinned (OpenSpec.upto poolLogsSpec)

/-- 'couponlaw06.PoolNil', WHERE WHAT IT READS IS OF BULK AT MOST 1048576: true; the input reads as it did. -/
def poolNilUptoRow : OpenClaim := { program := "ytcnlgbjkjlbmbaagreat", sum := "37cf4dce608718263eb8dcd59b4ff4a2347e9426a8ac45925357fd4976ad2716", func := "coupon/couponlaw06.PoolNil", spec := "poolNil", unfollowed := true, recurses := true, apart := false, narrowed := true }
def PoolNilUptoSaid : Prop := poolNilUptoRow.holds Tryz.pinned (OpenSpec.upto poolNilSpec)

end Rows
end Go.Proofs.YtcnlgbjkjlbmbaaGreat
