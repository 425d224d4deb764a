/-
  DERIVED. GIVEN WITH THE SEED: THE CARDS: each row of YtfonchobolhkoaaDoorRows.lean that lists a variable, with what it lists TIED to the program's text (the seventh form; the later family's looks); each row that meets fmt, with fmt's text TOLD by the authors' own Lean function (tested against real Go, not proved from fmt's source: count such statements apart). THE CARD IS WHAT COUNTS. Prove the row's statement (the work); the ties are given (YtfonchobolhkoaaDoorTie.lean); close each card by the builder's one call (the guide's Derived/Test/ToyasCard.lean, 'card_holds'). Laid BY PROGRAM, IN A SANDBOX (cutbox-door.mjs). By AI agents, Wed Nov 11 2026. No macro, syntax, notation, axiom, sorry.
-/
import Derived.Test.YtfonchobolhkoaaDoorRows
import GoSem.ClaimSeven
namespace Go.Proofs.YtfonchobolhkoaaDoor
namespace Rows

/-- THE TIED CARD OF 'couponlaw11.FareDeals'. -/
def fareDealsCard : Claim7 := { stood := { row := fareDealsRow, standIns := [], harness := (true, "58d90061a1bd3886139732f700d63da74b6d6609665a63b865be102c8a3a5b52"), looks := true }, kinds := [], alts := [], laidByText := true, laidKinds := [.data, .data, .data, .data, .pinned], laidTests := true, laidLooks := .later }
def FareDealsCardSaid : Prop := Claim7.holds Tryd.pinned (.plain (OpenSpec.ofChange fareDealsSpec)) fareDealsCard

/-- THE TIED CARD OF 'couponlaw11.FareWhole'. -/
def fareWholeCard : Claim7 := { stood := { row := fareWholeRow, standIns := [], harness := (true, "58d90061a1bd3886139732f700d63da74b6d6609665a63b865be102c8a3a5b52"), looks := true }, kinds := [], alts := [], laidByText := true, laidKinds := [.data, .data, .data, .data, .pinned], laidTests := true, laidLooks := .later }
def FareWholeCardSaid : Prop := Claim7.holds Tryd.pinned (.plain (OpenSpec.ofChange fareWholeSpec)) fareWholeCard

/-- THE TIED CARD OF 'couponlaw11.FareAlike'. -/
def fareAlikeCard : Claim7 := { stood := { row := fareAlikeRow, standIns := [], harness := (true, "58d90061a1bd3886139732f700d63da74b6d6609665a63b865be102c8a3a5b52"), looks := true }, kinds := [], alts := [], laidByText := true, laidKinds := [.data, .data, .data, .data, .pinned], laidTests := true, laidLooks := .later }
def FareAlikeCardSaid : Prop := Claim7.holds Tryd.pinned (.plain (OpenSpec.ofChange fareAlikeSpec)) fareAlikeCard

/-- THE TIED CARD OF 'couponlaw11.FareSums'. -/
def fareSumsCard : Claim7 := { stood := { row := fareSumsRow, standIns := [], harness := (true, "58d90061a1bd3886139732f700d63da74b6d6609665a63b865be102c8a3a5b52"), looks := true }, kinds := [], alts := [], laidByText := true, laidKinds := [.data, .data, .data, .data, .pinned], laidTests := true, laidLooks := .later }
def FareSumsCardSaid : Prop := Claim7.holds Tryd.pinned (.plain (OpenSpec.ofChange fareSumsSpec)) fareSumsCard

/-- THE TIED CARD OF 'couponlaw11.FareMany'. -/
def fareManyCard : Claim7 := { stood := { row := fareManyRow, standIns := [], harness := (true, "58d90061a1bd3886139732f700d63da74b6d6609665a63b865be102c8a3a5b52"), looks := true }, kinds := [], alts := [], laidByText := true, laidKinds := [.data, .data, .data, .data, .pinned], laidTests := true, laidLooks := .later }
def FareManyCardSaid : Prop := Claim7.holds Tryd.pinned (.plain (OpenSpec.ofChange fareManySpec)) fareManyCard

/-- THE TIED CARD OF 'couponlaw11.FareRates'. -/
def fareRatesCard : Claim7 := { stood := { row := fareRatesRow, standIns := [], harness := (true, "58d90061a1bd3886139732f700d63da74b6d6609665a63b865be102c8a3a5b52"), looks := true }, kinds := [], alts := [], laidByText := true, laidKinds := [.data, .data, .data, .data, .pinned], laidTests := true, laidLooks := .later }
def FareRatesCardSaid : Prop := Claim7.holds Tryd.pinned (.plain (OpenSpec.ofChange fareRatesSpec)) fareRatesCard

/-- THE TIED CARD OF 'couponlaw11.FareTexts'. -/
def fareTextsCard : Claim7 := { stood := { row := fareTextsRow, standIns := [], harness := (true, "58d90061a1bd3886139732f700d63da74b6d6609665a63b865be102c8a3a5b52"), looks := true }, kinds := [], alts := [], laidByText := true, laidKinds := [.data, .data, .data, .data, .pinned], laidTests := true, laidLooks := .later }
def FareTextsCardSaid : Prop := Claim7.holds Tryd.pinned (.plain (OpenSpec.ofChange fareTextsSpec)) fareTextsCard

/-- THE SECOND FORM's CARD OF 'couponlaw11.FareDeals'. -/
def fareDealsUptoCard : Claim7 := { stood := { row := fareDealsUptoRow, standIns := [], harness := (true, "58d90061a1bd3886139732f700d63da74b6d6609665a63b865be102c8a3a5b52"), looks := true }, kinds := [], alts := [], laidByText := true, laidKinds := [.data, .data, .data, .data, .pinned], laidTests := true, laidLooks := .later }
def FareDealsUptoCardSaid : Prop := Claim7.holds Tryd.pinned (.plain (OpenSpec.upto fareDealsSpec)) fareDealsUptoCard

/-- THE SECOND FORM's CARD OF 'couponlaw11.FareWhole'. -/
def fareWholeUptoCard : Claim7 := { stood := { row := fareWholeUptoRow, standIns := [], harness := (true, "58d90061a1bd3886139732f700d63da74b6d6609665a63b865be102c8a3a5b52"), looks := true }, kinds := [], alts := [], laidByText := true, laidKinds := [.data, .data, .data, .data, .pinned], laidTests := true, laidLooks := .later }
def FareWholeUptoCardSaid : Prop := Claim7.holds Tryd.pinned (.plain (OpenSpec.upto fareWholeSpec)) fareWholeUptoCard

/-- THE SECOND FORM's CARD OF 'couponlaw11.FareAlike'. -/
def fareAlikeUptoCard : Claim7 := { stood := { row := fareAlikeUptoRow, standIns := [], harness := (true, "58d90061a1bd3886139732f700d63da74b6d6609665a63b865be102c8a3a5b52"), looks := true }, kinds := [], alts := [], laidByText := true, laidKinds := [.data, .data, .data, .data, .pinned], laidTests := true, laidLooks := .later }
def FareAlikeUptoCardSaid : Prop := Claim7.holds Tryd.pinned (.plain (OpenSpec.upto fareAlikeSpec)) fareAlikeUptoCard

/-- THE SECOND FORM's CARD OF 'couponlaw11.FareSums'. -/
def fareSumsUptoCard : Claim7 := { stood := { row := fareSumsUptoRow, standIns := [], harness := (true, "58d90061a1bd3886139732f700d63da74b6d6609665a63b865be102c8a3a5b52"), looks := true }, kinds := [], alts := [], laidByText := true, laidKinds := [.data, .data, .data, .data, .pinned], laidTests := true, laidLooks := .later }
def FareSumsUptoCardSaid : Prop := Claim7.holds Tryd.pinned (.plain (OpenSpec.upto fareSumsSpec)) fareSumsUptoCard

/-- THE SECOND FORM's CARD OF 'couponlaw11.FareMany'. -/
def fareManyUptoCard : Claim7 := { stood := { row := fareManyUptoRow, standIns := [], harness := (true, "58d90061a1bd3886139732f700d63da74b6d6609665a63b865be102c8a3a5b52"), looks := true }, kinds := [], alts := [], laidByText := true, laidKinds := [.data, .data, .data, .data, .pinned], laidTests := true, laidLooks := .later }
def FareManyUptoCardSaid : Prop := Claim7.holds Tryd.pinned (.plain (OpenSpec.upto fareManySpec)) fareManyUptoCard

/-- THE SECOND FORM's CARD OF 'couponlaw11.FareRates'. -/
def fareRatesUptoCard : Claim7 := { stood := { row := fareRatesUptoRow, standIns := [], harness := (true, "58d90061a1bd3886139732f700d63da74b6d6609665a63b865be102c8a3a5b52"), looks := true }, kinds := [], alts := [], laidByText := true, laidKinds := [.data, .data, .data, .data, .pinned], laidTests := true, laidLooks := .later }
def FareRatesUptoCardSaid : Prop := Claim7.holds Tryd.pinned (.plain (OpenSpec.upto fareRatesSpec)) fareRatesUptoCard

/-- THE SECOND FORM's CARD OF 'couponlaw11.FareTexts'. -/
def fareTextsUptoCard : Claim7 := { stood := { row := fareTextsUptoRow, standIns := [], harness := (true, "58d90061a1bd3886139732f700d63da74b6d6609665a63b865be102c8a3a5b52"), looks := true }, kinds := [], alts := [], laidByText := true, laidKinds := [.data, .data, .data, .data, .pinned], laidTests := true, laidLooks := .later }
def FareTextsUptoCardSaid : Prop := Claim7.holds Tryd.pinned (.plain (OpenSpec.upto fareTextsSpec)) fareTextsUptoCard
end Rows
end Go.Proofs.YtfonchobolhkoaaDoor
