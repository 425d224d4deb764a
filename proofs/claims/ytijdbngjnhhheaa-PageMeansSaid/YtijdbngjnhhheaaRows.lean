/-
  No cell of these rows narrows 'for every input' (looked for: loops, veiled, ifaces, maps, wideKeys, modest, calm, conditions, laid).
  DERIVED. THE GIVEN ROWS OF THIS SEAT. 5 by the template 'for every input the law returns true; each argument reads behind the call as it read before'; 0 by the template 'total and deterministic' (their statements: YtijdbngjnhhheaaTotals.lean).
  GIVEN WITH THE SEED: the statements are not yours to turn. If you find one false, say at which input.
  Laid BY PROGRAM, IN A SANDBOX (cutbox-rows.mjs): the forced cells as the released guide's own fill.sh prints them over the translation 3f3d6a8f3d770726… (all of the seat's roots in one cut). By AI agents, Wed Nov 11 2026. No macro, syntax, notation, axiom, sorry.
-/
import Derived.Test.YtijdbngjnhhheaaChecked
import GoSem.Claim
import GoSem.ClaimJoined
import GoSem.ClaimMapViews
import Derived.JoinedTies
import Derived.KernelRfl
namespace Go.Proofs.Ytijdbngjnhhheaa
/- THE CELL 'sum', in the pinned program and in every row, IS THE sha256 OF THE DUMP (.gsa) THAT YtijdbngjnhhheaaProg.lean LOADS. Nothing in Lean hashes anything: it is a label: what it is worth is what the hold of that sum in a sandbox is worth. -/
noncomputable def Try.pinned : Pinned := { name := "ytijdbngjnhhheaa", sum := "3f3d6a8f3d77072614e08f0b646d87f78781398a2fa2a7b0c11781a48df519ad", checked := Try.checked }
namespace Rows
def none {H : Type} : Left H := { results := [], args := [] }

/-- 'couponlaw05.PageMeans': WHATEVER THE INPUT: true; the input reads as it did. -/
def pageMeansSpec : ChangeSpec := { name := "pageMeans", fn := fun _ => fun
  | [d1, d2] => { results := [.lit (.bool true)], args := [d1, d2] }
  | _ => none }
def pageMeansRow : OpenClaim := { program := "ytijdbngjnhhheaa", sum := "3f3d6a8f3d77072614e08f0b646d87f78781398a2fa2a7b0c11781a48df519ad", func := "coupon/couponlaw05.PageMeans", spec := "pageMeans", apart := false }
def PageMeansSaid : Prop := pageMeansRow.holds Try.pinned (OpenSpec.ofChange pageMeansSpec)

/-- ITS FALSE NEIGHBOUR: 'it returns false'. Refute it at one input. -/
def pageMeansWrong : ChangeSpec := { name := "pageMeans", fn := fun _ => fun
  | [d1, d2] => { results := [.lit (.bool false)], args := [d1, d2] }
  | _ => none }
def PageMeansWrongFalsely : Prop := pageMeansRow.holds Try.pinned (OpenSpec.ofChange pageMeansWrong)

/-- 'couponlaw05.PageRoom': WHATEVER THE INPUT: true; the input reads as it did. -/
def pageRoomSpec : ChangeSpec := { name := "pageRoom", fn := fun _ => fun
  | [d1, d2, d3] => { results := [.lit (.bool true)], args := [d1, d2, d3] }
  | _ => none }
def pageRoomRow : OpenClaim := { program := "ytijdbngjnhhheaa", sum := "3f3d6a8f3d77072614e08f0b646d87f78781398a2fa2a7b0c11781a48df519ad", func := "coupon/couponlaw05.PageRoom", spec := "pageRoom", apart := false }
def PageRoomSaid : Prop := pageRoomRow.holds Try.pinned (OpenSpec.ofChange pageRoomSpec)

/-- ITS FALSE NEIGHBOUR: 'it returns false'. Refute it at one input. -/
def pageRoomWrong : ChangeSpec := { name := "pageRoom", fn := fun _ => fun
  | [d1, d2, d3] => { results := [.lit (.bool false)], args := [d1, d2, d3] }
  | _ => none }
def PageRoomWrongFalsely : Prop := pageRoomRow.holds Try.pinned (OpenSpec.ofChange pageRoomWrong)

/-- 'couponlaw05.PageSlots': WHATEVER THE INPUT: true; the input reads as it did. -/
def pageSlotsSpec : ChangeSpec := { name := "pageSlots", fn := fun _ => fun
  | [d1, d2, d3, d4] => { results := [.lit (.bool true)], args := [d1, d2, d3, d4] }
  | _ => none }
def pageSlotsRow : OpenClaim := { program := "ytijdbngjnhhheaa", sum := "3f3d6a8f3d77072614e08f0b646d87f78781398a2fa2a7b0c11781a48df519ad", func := "coupon/couponlaw05.PageSlots", spec := "pageSlots", apart := false }
def PageSlotsSaid : Prop := pageSlotsRow.holds Try.pinned (OpenSpec.ofChange pageSlotsSpec)

/-- ITS FALSE NEIGHBOUR: 'it returns false'. Refute it at one input. -/
def pageSlotsWrong : ChangeSpec := { name := "pageSlots", fn := fun _ => fun
  | [d1, d2, d3, d4] => { results := [.lit (.bool false)], args := [d1, d2, d3, d4] }
  | _ => none }
def PageSlotsWrongFalsely : Prop := pageSlotsRow.holds Try.pinned (OpenSpec.ofChange pageSlotsWrong)

/-- 'couponlaw05.PageBounds': WHATEVER THE INPUT: true; the input reads as it did. -/
def pageBoundsSpec : ChangeSpec := { name := "pageBounds", fn := fun _ => fun
  | [] => { results := [.lit (.bool true)], args := [] }
  | _ => none }
def pageBoundsRow : OpenClaim := { program := "ytijdbngjnhhheaa", sum := "3f3d6a8f3d77072614e08f0b646d87f78781398a2fa2a7b0c11781a48df519ad", func := "coupon/couponlaw05.PageBounds", spec := "pageBounds", apart := false }
def PageBoundsSaid : Prop := pageBoundsRow.holds Try.pinned (OpenSpec.ofChange pageBoundsSpec)

/-- ITS FALSE NEIGHBOUR: 'it returns false'. Refute it at one input. -/
def pageBoundsWrong : ChangeSpec := { name := "pageBounds", fn := fun _ => fun
  | [] => { results := [.lit (.bool false)], args := [] }
  | _ => none }
def PageBoundsWrongFalsely : Prop := pageBoundsRow.holds Try.pinned (OpenSpec.ofChange pageBoundsWrong)

/-- 'couponlaw01.WirePuts': WHATEVER THE INPUT: true; the input reads as it did. -/
def wirePutsSpec : ChangeSpec := { name := "wirePuts", fn := fun _ => fun
  | [d] => { results := [.lit (.bool true)], args := [d] }
  | _ => none }
def wirePutsRow : OpenClaim := { program := "ytijdbngjnhhheaa", sum := "3f3d6a8f3d77072614e08f0b646d87f78781398a2fa2a7b0c11781a48df519ad", func := "coupon/couponlaw01.WirePuts", spec := "wirePuts", apart := false }
def WirePutsSaid : Prop := wirePutsRow.holds Try.pinned (OpenSpec.ofChange wirePutsSpec)

/-- ITS FALSE NEIGHBOUR: 'it returns false'. Refute it at one input. -/
def wirePutsWrong : ChangeSpec := { name := "wirePuts", fn := fun _ => fun
  | [d] => { results := [.lit (.bool false)], args := [d] }
  | _ => none }
def WirePutsWrongFalsely : Prop := wirePutsRow.holds Try.pinned (OpenSpec.ofChange wirePutsWrong)

/- THE SECOND FORM. 'bulk': how many values and letters a reading holds, each counted each time it is reached (what is shared counts as often as it is met; a slice's spare places count too). A statement '..UptoSaid' is the law's where the arguments, and the package variables that the reading takes, are together of bulk at most 1048576: NARROWER than '..Said'. Prove '..Said' where nothing that the law and all that it calls make is longer than what came in: it says more and counts as full. Else prove '..UptoSaid'. A law counts once. -/
mutual
def uptoBulk {H : Type} : DataW H → Nat
  | .lit (.string bytes) => bytes.length + 1
  | .lit _ => 1
  | .nil => 1
  | .ptr d => uptoBulk d + 1
  | .slice elems spare => uptoBulkAll elems + uptoBulkAll spare + 1
  | .agg parts => uptoBulkAll parts + 1
  | .iface _ d => uptoBulk d + 1
  | .map entries => uptoBulkEntries entries + 1
  | .held _ => 1
def uptoBulkAll {H : Type} : List (DataW H) → Nat
  | [] => 0
  | d :: r => uptoBulk d + uptoBulkAll r
def uptoBulkEntries {H : Type} : List (Lit × DataW H) → Nat
  | [] => 0
  | x :: r => uptoBulkEntry x + uptoBulkEntries r
def uptoBulkEntry {H : Type} : Lit × DataW H → Nat
  | (.string bytes, d) => bytes.length + uptoBulk d + 1
  | (_, d) => uptoBulk d + 1
 end
def uptoSmall : (H : Type) → List (DataW H) → Bool := fun _ ds => decide (uptoBulkAll ds ≤ 1048576)
def OpenSpec.upto (s : _root_.Go.ChangeSpec) : _root_.Go.OpenSpec := { _root_.Go.OpenSpec.ofChange s with cond := some uptoSmall }

/-- 'couponlaw05.PageMeans', WHERE WHAT IT READS IS OF BULK AT MOST 1048576: true; the input reads as it did. -/
def pageMeansUptoRow : OpenClaim := { program := "ytijdbngjnhhheaa", sum := "3f3d6a8f3d77072614e08f0b646d87f78781398a2fa2a7b0c11781a48df519ad", func := "coupon/couponlaw05.PageMeans", spec := "pageMeans", apart := false, narrowed := true }
def PageMeansUptoSaid : Prop := pageMeansUptoRow.holds Try.pinned (OpenSpec.upto pageMeansSpec)

/-- 'couponlaw05.PageRoom', WHERE WHAT IT READS IS OF BULK AT MOST 1048576: true; the input reads as it did. -/
def pageRoomUptoRow : OpenClaim := { program := "ytijdbngjnhhheaa", sum := "3f3d6a8f3d77072614e08f0b646d87f78781398a2fa2a7b0c11781a48df519ad", func := "coupon/couponlaw05.PageRoom", spec := "pageRoom", apart := false, narrowed := true }
def PageRoomUptoSaid : Prop := pageRoomUptoRow.holds Try.pinned (OpenSpec.upto pageRoomSpec)

/-- 'couponlaw05.PageSlots', WHERE WHAT IT READS IS OF BULK AT MOST 1048576: true; the input reads as it did. -/
def pageSlotsUptoRow : OpenClaim := { program := "ytijdbngjnhhheaa", sum := "3f3d6a8f3d77072614e08f0b646d87f78781398a2fa2a7b0c11781a48df519ad", func := "coupon/couponlaw05.PageSlots", spec := "pageSlots", apart := false, narrowed := true }
def PageSlotsUptoSaid : Prop := pageSlotsUptoRow.holds Try.pinned (OpenSpec.upto pageSlotsSpec)

/-- 'couponlaw05.PageBounds', WHERE WHAT IT READS IS OF BULK AT MOST 1048576: true; the input reads as it did. -/
def pageBoundsUptoRow : OpenClaim := { program := "ytijdbngjnhhheaa", sum := "3f3d6a8f3d77072614e08f0b646d87f78781398a2fa2a7b0c11781a48df519ad", func := "coupon/couponlaw05.PageBounds", spec := "pageBounds", apart := false, narrowed := true }
def PageBoundsUptoSaid : Prop := pageBoundsUptoRow.holds Try.pinned (OpenSpec.upto pageBoundsSpec)

/-- 'couponlaw01.WirePuts', WHERE WHAT IT READS IS OF BULK AT MOST 1048576: true; the input reads as it did. -/
def wirePutsUptoRow : OpenClaim := { program := "ytijdbngjnhhheaa", sum := "3f3d6a8f3d77072614e08f0b646d87f78781398a2fa2a7b0c11781a48df519ad", func := "coupon/couponlaw01.WirePuts", spec := "wirePuts", apart := false, narrowed := true }
def WirePutsUptoSaid : Prop := wirePutsUptoRow.holds Try.pinned (OpenSpec.upto wirePutsSpec)

end Rows
end Go.Proofs.Ytijdbngjnhhheaa
