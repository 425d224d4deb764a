/-
  No cell of these rows narrows 'for every input' (looked for: loops, veiled, ifaces, maps, wideKeys, modest, calm, conditions, laid).
  DERIVED. THE GIVEN ROWS OF THIS SEAT. 5 by the template 'for every input the law returns true; each argument reads behind the call as it read before'; 0 by the template 'total and deterministic' (their statements: YthffnepfnadakaaTotals.lean).
  GIVEN WITH THE SEED: the statements are not yours to turn. If you find one false, say at which input.
  Laid BY PROGRAM, IN A SANDBOX (cutbox-rows.mjs): the forced cells as the released guide's own fill.sh prints them over the translation 0c3d5addf400855c… (all of the seat's roots in one cut). By AI agents, Wed Nov 11 2026. No macro, syntax, notation, axiom, sorry.
-/
import Derived.Test.YthffnepfnadakaaChecked
import GoSem.Claim
import GoSem.ClaimJoined
import GoSem.ClaimMapViews
import Derived.JoinedTies
import Derived.KernelRfl
namespace Go.Proofs.Ythffnepfnadakaa
/- THE CELL 'sum', in the pinned program and in every row, IS THE sha256 OF THE DUMP (.gsa) THAT YthffnepfnadakaaProg.lean LOADS. Nothing in Lean hashes anything: it is a label: what it is worth is what the hold of that sum in a sandbox is worth. -/
noncomputable def Try.pinned : Pinned := { name := "ythffnepfnadakaa", sum := "0c3d5addf400855c800f387331a7bae071ed34dcf8cd5cc53b1bfd6add0c77c2", checked := Try.checked }
namespace Rows
def none {H : Type} : Left H := { results := [], args := [] }

/-- 'couponlaw12.StatusLeads': WHATEVER THE INPUT: true; the input reads as it did. -/
def statusLeadsSpec : ChangeSpec := { name := "statusLeads", fn := fun _ => fun
  | [d1, d2] => { results := [.lit (.bool true)], args := [d1, d2] }
  | _ => none }
def statusLeadsRow : OpenClaim := { program := "ythffnepfnadakaa", sum := "0c3d5addf400855c800f387331a7bae071ed34dcf8cd5cc53b1bfd6add0c77c2", func := "coupon/couponlaw12.StatusLeads", spec := "statusLeads", unfollowed := true, recurses := true, apart := false }
def StatusLeadsSaid : Prop := statusLeadsRow.holds Try.pinned (OpenSpec.ofChange statusLeadsSpec)

/-- ITS FALSE NEIGHBOUR: 'it returns false'. Refute it at one input. -/
def statusLeadsWrong : ChangeSpec := { name := "statusLeads", fn := fun _ => fun
  | [d1, d2] => { results := [.lit (.bool false)], args := [d1, d2] }
  | _ => none }
def StatusLeadsWrongFalsely : Prop := statusLeadsRow.holds Try.pinned (OpenSpec.ofChange statusLeadsWrong)

/-- 'couponlaw12.StatusWalks': WHATEVER THE INPUT: true; the input reads as it did. -/
def statusWalksSpec : ChangeSpec := { name := "statusWalks", fn := fun _ => fun
  | [d] => { results := [.lit (.bool true)], args := [d] }
  | _ => none }
def statusWalksRow : OpenClaim := { program := "ythffnepfnadakaa", sum := "0c3d5addf400855c800f387331a7bae071ed34dcf8cd5cc53b1bfd6add0c77c2", func := "coupon/couponlaw12.StatusWalks", spec := "statusWalks", unfollowed := true, recurses := true, apart := false }
def StatusWalksSaid : Prop := statusWalksRow.holds Try.pinned (OpenSpec.ofChange statusWalksSpec)

/-- ITS FALSE NEIGHBOUR: 'it returns false'. Refute it at one input. -/
def statusWalksWrong : ChangeSpec := { name := "statusWalks", fn := fun _ => fun
  | [d] => { results := [.lit (.bool false)], args := [d] }
  | _ => none }
def StatusWalksWrongFalsely : Prop := statusWalksRow.holds Try.pinned (OpenSpec.ofChange statusWalksWrong)

/-- 'couponlaw12.StatusGoes': WHATEVER THE INPUT: true; the input reads as it did. -/
def statusGoesSpec : ChangeSpec := { name := "statusGoes", fn := fun _ => fun
  | [d1, d2] => { results := [.lit (.bool true)], args := [d1, d2] }
  | _ => none }
def statusGoesRow : OpenClaim := { program := "ythffnepfnadakaa", sum := "0c3d5addf400855c800f387331a7bae071ed34dcf8cd5cc53b1bfd6add0c77c2", func := "coupon/couponlaw12.StatusGoes", spec := "statusGoes", unfollowed := true, recurses := true, apart := false }
def StatusGoesSaid : Prop := statusGoesRow.holds Try.pinned (OpenSpec.ofChange statusGoesSpec)

/-- ITS FALSE NEIGHBOUR: 'it returns false'. Refute it at one input. -/
def statusGoesWrong : ChangeSpec := { name := "statusGoes", fn := fun _ => fun
  | [d1, d2] => { results := [.lit (.bool false)], args := [d1, d2] }
  | _ => none }
def StatusGoesWrongFalsely : Prop := statusGoesRow.holds Try.pinned (OpenSpec.ofChange statusGoesWrong)

/-- 'couponlaw12.StatusWays': WHATEVER THE INPUT: true; the input reads as it did. -/
def statusWaysSpec : ChangeSpec := { name := "statusWays", fn := fun _ => fun
  | [d1, d2] => { results := [.lit (.bool true)], args := [d1, d2] }
  | _ => none }
def statusWaysRow : OpenClaim := { program := "ythffnepfnadakaa", sum := "0c3d5addf400855c800f387331a7bae071ed34dcf8cd5cc53b1bfd6add0c77c2", func := "coupon/couponlaw12.StatusWays", spec := "statusWays", unfollowed := true, recurses := true, apart := false }
def StatusWaysSaid : Prop := statusWaysRow.holds Try.pinned (OpenSpec.ofChange statusWaysSpec)

/-- ITS FALSE NEIGHBOUR: 'it returns false'. Refute it at one input. -/
def statusWaysWrong : ChangeSpec := { name := "statusWays", fn := fun _ => fun
  | [d1, d2] => { results := [.lit (.bool false)], args := [d1, d2] }
  | _ => none }
def StatusWaysWrongFalsely : Prop := statusWaysRow.holds Try.pinned (OpenSpec.ofChange statusWaysWrong)

/-- 'couponlaw12.StatusLetters': WHATEVER THE INPUT: true; the input reads as it did. -/
def statusLettersSpec : ChangeSpec := { name := "statusLetters", fn := fun _ => fun
  | [d1, d2] => { results := [.lit (.bool true)], args := [d1, d2] }
  | _ => none }
def statusLettersRow : OpenClaim := { program := "ythffnepfnadakaa", sum := "0c3d5addf400855c800f387331a7bae071ed34dcf8cd5cc53b1bfd6add0c77c2", func := "coupon/couponlaw12.StatusLetters", spec := "statusLetters", inPlace := ["internal/bytealg.IndexByteString", "internal/bytealg.IndexString"], unfollowed := true, recurses := true, named := ["internal/bytealg.MaxLen"], apart := false }
def StatusLettersSaid : Prop := statusLettersRow.holds Try.pinned (OpenSpec.ofChange statusLettersSpec)

/-- ITS FALSE NEIGHBOUR: 'it returns false'. Refute it at one input. -/
def statusLettersWrong : ChangeSpec := { name := "statusLetters", fn := fun _ => fun
  | [d1, d2] => { results := [.lit (.bool false)], args := [d1, d2] }
  | _ => none }
def StatusLettersWrongFalsely : Prop := statusLettersRow.holds Try.pinned (OpenSpec.ofChange statusLettersWrong)

/- THE SECOND FORM. 'bulk': how many values and letters a reading holds, each counted each time it is reached (what is shared counts as often as it is met; a slice's spare places count too). A statement '..UptoSaid' is the law's where the arguments, and the package variables that the reading takes, are together of bulk at most 1048576: NARROWER than '..Said'. Prove '..Said' where nothing that the law and all that it calls make is longer than what came in: it says more and counts as full. Else prove '..UptoSaid'. A law counts once. -/
mutual
def uptoBulk {H : Type} : DataW H → Nat
  | .lit (.string bytes) => bytes.length + 1
  | .lit _ => 1
  | .nil => 1
  | .ptr d => uptoBulk d + 1
  | .slice elems spare => uptoBulkAll elems + uptoBulkAll spare + 1
  | .agg parts => uptoBulkAll parts + 1
  | .iface _ d => uptoBulk d + 1
  | .map entries => uptoBulkEntries entries + 1
  | .held _ => 1
def uptoBulkAll {H : Type} : List (DataW H) → Nat
  | [] => 0
  | d :: r => uptoBulk d + uptoBulkAll r
def uptoBulkEntries {H : Type} : List (Lit × DataW H) → Nat
  | [] => 0
  | x :: r => uptoBulkEntry x + uptoBulkEntries r
def uptoBulkEntry {H : Type} : Lit × DataW H → Nat
  | (.string bytes, d) => bytes.length + uptoBulk d + 1
  | (_, d) => uptoBulk d + 1
 end
def uptoSmall : (H : Type) → List (DataW H) → Bool := fun _ ds => decide (uptoBulkAll ds ≤ 1048576)
def OpenSpec.upto (s : _root_.Go.ChangeSpec) : _root_.Go.OpenSpec := { _root_.Go.OpenSpec.ofChange s with cond := some uptoSmall }

/-- 'couponlaw12.StatusLeads', WHERE WHAT IT READS IS OF BULK AT MOST 1048576: true; the input reads as it did. -/
def statusLeadsUptoRow : OpenClaim := { program := "ythffnepfnadakaa", sum := "0c3d5addf400855c800f387331a7bae071ed34dcf8cd5cc53b1bfd6add0c77c2", func := "coupon/couponlaw12.StatusLeads", spec := "statusLeads", unfollowed := true, recurses := true, apart := false, narrowed := true }
def StatusLeadsUptoSaid : Prop := statusLeadsUptoRow.holds Try.pinned (OpenSpec.upto statusLeadsSpec)

/-- 'couponlaw12.StatusWalks', WHERE WHAT IT READS IS OF BULK AT MOST 1048576: true; the input reads as it did. -/
def statusWalksUptoRow : OpenClaim := { program := "ythffnepfnadakaa", sum := "0c3d5addf400855c800f387331a7bae071ed34dcf8cd5cc53b1bfd6add0c77c2", func := "coupon/couponlaw12.StatusWalks", spec := "statusWalks", unfollowed := true, recurses := true, apart := false, narrowed := true }
def StatusWalksUptoSaid : Prop := statusWalksUptoRow.holds Try.pinned (OpenSpec.upto statusWalksSpec)

/-- 'couponlaw12.StatusGoes', WHERE WHAT IT READS IS OF BULK AT MOST 1048576: true; the input reads as it did. -/
def statusGoesUptoRow : OpenClaim := { program := "ythffnepfnadakaa", sum := "0c3d5addf400855c800f387331a7bae071ed34dcf8cd5cc53b1bfd6add0c77c2", func := "coupon/couponlaw12.StatusGoes", spec := "statusGoes", unfollowed := true, recurses := true, apart := false, narrowed := true }
def StatusGoesUptoSaid : Prop := statusGoesUptoRow.holds Try.pinned (OpenSpec.upto statusGoesSpec)

/-- 'couponlaw12.StatusWays', WHERE WHAT IT READS IS OF BULK AT MOST 1048576: true; the input reads as it did. -/
def statusWaysUptoRow : OpenClaim := { program := "ythffnepfnadakaa", sum := "0c3d5addf400855c800f387331a7bae071ed34dcf8cd5cc53b1bfd6add0c77c2", func := "coupon/couponlaw12.StatusWays", spec := "statusWays", unfollowed := true, recurses := true, apart := false, narrowed := true }
def StatusWaysUptoSaid : Prop := statusWaysUptoRow.holds Try.pinned (OpenSpec.upto statusWaysSpec)

/-- 'couponlaw12.StatusLetters', WHERE WHAT IT READS IS OF BULK AT MOST 1048576: true; the input reads as it did. -/
def statusLettersUptoRow : OpenClaim := { program := "ythffnepfnadakaa", sum := "0c3d5addf400855c800f387331a7bae071ed34dcf8cd5cc53b1bfd6add0c77c2", func := "coupon/couponlaw12.StatusLetters", spec := "statusLetters", inPlace := ["internal/bytealg.IndexByteString", "internal/bytealg.IndexString"], unfollowed := true, recurses := true, named := ["internal/bytealg.MaxLen"], apart := false, narrowed := true }
def StatusLettersUptoSaid : Prop := statusLettersUptoRow.holds Try.pinned (OpenSpec.upto statusLettersSpec)

end Rows
end Go.Proofs.Ythffnepfnadakaa
