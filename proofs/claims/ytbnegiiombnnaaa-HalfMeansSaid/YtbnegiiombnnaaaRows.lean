/-
  No cell of these rows narrows 'for every input' (looked for: loops, veiled, ifaces, maps, wideKeys, modest, calm, conditions, laid).
  DERIVED. THE GIVEN ROWS OF THIS SEAT. 3 by the template 'for every input the law returns true; each argument reads behind the call as it read before'; 0 by the template 'total and deterministic' (their statements: YtbnegiiombnnaaaTotals.lean).
  GIVEN WITH THE SEED: the statements are not yours to turn. If you find one false, say at which input.
  Laid BY PROGRAM, IN A SANDBOX (cutbox-rows.mjs): the forced cells as the released guide's own fill.sh prints them over the translation ab28c194823d31d0… (all of the seat's roots in one cut). By AI agents, Wed Nov 11 2026. No macro, syntax, notation, axiom, sorry.
-/
import Derived.Test.YtbnegiiombnnaaaChecked
import GoSem.Claim
import GoSem.ClaimJoined
import GoSem.ClaimMapViews
import Derived.JoinedTies
import Derived.KernelRfl
namespace Go.Proofs.Ytbnegiiombnnaaa
/- THE CELL 'sum', in the pinned program and in every row, IS THE sha256 OF THE DUMP (.gsa) THAT YtbnegiiombnnaaaProg.lean LOADS. Nothing in Lean hashes anything: it is a label: what it is worth is what the hold of that sum in a sandbox is worth. -/
noncomputable def Try.pinned : Pinned := { name := "ytbnegiiombnnaaa", sum := "ab28c194823d31d056056050725d466dfc5c9d9af6b49fd72656b798fc027cf7", checked := Try.checked }
namespace Rows
def none {H : Type} : Left H := { results := [], args := [] }

/-- 'couponlaw02.HalfSplits': WHATEVER THE INPUT: true; the input reads as it did. -/
def halfSplitsSpec : ChangeSpec := { name := "halfSplits", fn := fun _ => fun
  | [d1, d2, d3] => { results := [.lit (.bool true)], args := [d1, d2, d3] }
  | _ => none }
def halfSplitsRow : OpenClaim := { program := "ytbnegiiombnnaaa", sum := "ab28c194823d31d056056050725d466dfc5c9d9af6b49fd72656b798fc027cf7", func := "coupon/couponlaw02.HalfSplits", spec := "halfSplits", unfollowed := true, recurses := true, apart := false }
def HalfSplitsSaid : Prop := halfSplitsRow.holds Try.pinned (OpenSpec.ofChange halfSplitsSpec)

/-- ITS FALSE NEIGHBOUR: 'it returns false'. Refute it at one input. -/
def halfSplitsWrong : ChangeSpec := { name := "halfSplits", fn := fun _ => fun
  | [d1, d2, d3] => { results := [.lit (.bool false)], args := [d1, d2, d3] }
  | _ => none }
def HalfSplitsWrongFalsely : Prop := halfSplitsRow.holds Try.pinned (OpenSpec.ofChange halfSplitsWrong)

/-- 'couponlaw02.HalfJoins': WHATEVER THE INPUT: true; the input reads as it did. -/
def halfJoinsSpec : ChangeSpec := { name := "halfJoins", fn := fun _ => fun
  | [d1, d2, d3] => { results := [.lit (.bool true)], args := [d1, d2, d3] }
  | _ => none }
def halfJoinsRow : OpenClaim := { program := "ytbnegiiombnnaaa", sum := "ab28c194823d31d056056050725d466dfc5c9d9af6b49fd72656b798fc027cf7", func := "coupon/couponlaw02.HalfJoins", spec := "halfJoins", unfollowed := true, recurses := true, apart := false }
def HalfJoinsSaid : Prop := halfJoinsRow.holds Try.pinned (OpenSpec.ofChange halfJoinsSpec)

/-- ITS FALSE NEIGHBOUR: 'it returns false'. Refute it at one input. -/
def halfJoinsWrong : ChangeSpec := { name := "halfJoins", fn := fun _ => fun
  | [d1, d2, d3] => { results := [.lit (.bool false)], args := [d1, d2, d3] }
  | _ => none }
def HalfJoinsWrongFalsely : Prop := halfJoinsRow.holds Try.pinned (OpenSpec.ofChange halfJoinsWrong)

/-- 'couponlaw02.HalfMeans': WHATEVER THE INPUT: true; the input reads as it did. -/
def halfMeansSpec : ChangeSpec := { name := "halfMeans", fn := fun _ => fun
  | [d1, d2, d3] => { results := [.lit (.bool true)], args := [d1, d2, d3] }
  | _ => none }
def halfMeansRow : OpenClaim := { program := "ytbnegiiombnnaaa", sum := "ab28c194823d31d056056050725d466dfc5c9d9af6b49fd72656b798fc027cf7", func := "coupon/couponlaw02.HalfMeans", spec := "halfMeans", unfollowed := true, recurses := true, apart := false }
def HalfMeansSaid : Prop := halfMeansRow.holds Try.pinned (OpenSpec.ofChange halfMeansSpec)

/-- ITS FALSE NEIGHBOUR: 'it returns false'. Refute it at one input. -/
def halfMeansWrong : ChangeSpec := { name := "halfMeans", fn := fun _ => fun
  | [d1, d2, d3] => { results := [.lit (.bool false)], args := [d1, d2, d3] }
  | _ => none }
def HalfMeansWrongFalsely : Prop := halfMeansRow.holds Try.pinned (OpenSpec.ofChange halfMeansWrong)

/- THE SECOND FORM. 'bulk': how many values and letters a reading holds, each counted each time it is reached (what is shared counts as often as it is met; a slice's spare places count too). A statement '..UptoSaid' is the law's where the arguments, and the package variables that the reading takes, are together of bulk at most 1048576: NARROWER than '..Said'. Prove '..Said' where nothing that the law and all that it calls make is longer than what came in: it says more and counts as full. Else prove '..UptoSaid'. A law counts once. -/
mutual
def uptoBulk {H : Type} : DataW H → Nat
  | .lit (.string bytes) => bytes.length + 1
  | .lit _ => 1
  | .nil => 1
  | .ptr d => uptoBulk d + 1
  | .slice elems spare => uptoBulkAll elems + uptoBulkAll spare + 1
  | .agg parts => uptoBulkAll parts + 1
  | .iface _ d => uptoBulk d + 1
  | .map entries => uptoBulkEntries entries + 1
  | .held _ => 1
def uptoBulkAll {H : Type} : List (DataW H) → Nat
  | [] => 0
  | d :: r => uptoBulk d + uptoBulkAll r
def uptoBulkEntries {H : Type} : List (Lit × DataW H) → Nat
  | [] => 0
  | x :: r => uptoBulkEntry x + uptoBulkEntries r
def uptoBulkEntry {H : Type} : Lit × DataW H → Nat
  | (.string bytes, d) => bytes.length + uptoBulk d + 1
  | (_, d) => uptoBulk d + 1
 end
def uptoSmall : (H : Type) → List (DataW H) → Bool := fun _ ds => decide (uptoBulkAll ds ≤ 1048576)
def OpenSpec.upto (s : _root_.Go.ChangeSpec) : _root_.Go.OpenSpec := { _root_.Go.OpenSpec.ofChange s with cond := some uptoSmall }

/-- 'couponlaw02.HalfSplits', WHERE WHAT IT READS IS OF BULK AT MOST 1048576: true; the input reads as it did. -/
def halfSplitsUptoRow : OpenClaim := { program := "ytbnegiiombnnaaa", sum := "ab28c194823d31d056056050725d466dfc5c9d9af6b49fd72656b798fc027cf7", func := "coupon/couponlaw02.HalfSplits", spec := "halfSplits", unfollowed := true, recurses := true, apart := false, narrowed := true }
def HalfSplitsUptoSaid : Prop := halfSplitsUptoRow.holds Try.pinned (OpenSpec.upto halfSplitsSpec)

/-- 'couponlaw02.HalfJoins', WHERE WHAT IT READS IS OF BULK AT MOST 1048576: true; the input reads as it did. -/
def halfJoinsUptoRow : OpenClaim := { program := "ytbnegiiombnnaaa", sum := "ab28c194823d31d056056050725d466dfc5c9d9af6b49fd72656b798fc027cf7", func := "coupon/couponlaw02.HalfJoins", spec := "halfJoins", unfollowed := true, recurses := true, apart := false, narrowed := true }
def HalfJoinsUptoSaid : Prop := halfJoinsUptoRow.holds Try.pinned (OpenSpec.upto halfJoinsSpec)

/-- 'couponlaw02.HalfMeans', WHERE WHAT IT READS IS OF BULK AT MOST 1048576: true; the input reads as it did. -/
def halfMeansUptoRow : OpenClaim := { program := "ytbnegiiombnnaaa", sum := "ab28c194823d31d056056050725d466dfc5c9d9af6b49fd72656b798fc027cf7", func := "coupon/couponlaw02.HalfMeans", spec := "halfMeans", unfollowed := true, recurses := true, apart := false, narrowed := true }
def HalfMeansUptoSaid : Prop := halfMeansUptoRow.holds Try.pinned (OpenSpec.upto halfMeansSpec)

end Rows
end Go.Proofs.Ytbnegiiombnnaaa
