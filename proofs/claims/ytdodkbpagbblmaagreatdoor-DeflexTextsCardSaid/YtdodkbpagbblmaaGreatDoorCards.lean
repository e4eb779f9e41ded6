/-
  DERIVED. GIVEN WITH THE SEED: THE CARDS: each row of YtdodkbpagbblmaaGreatDoorRows.lean that lists a variable, with what it lists TIED to the program's text (the seventh form; the later family's looks); each row that meets fmt, with fmt's text TOLD by the authors' own Lean function (tested against real Go, not proved from fmt's source: count such statements apart). THE CARD IS WHAT COUNTS. Prove the row's statement (the work); the ties are given (YtdodkbpagbblmaaGreatDoorTie.lean); close each card by the builder's one call (the guide's Derived/Test/ToyasCard.lean, 'card_holds'). Laid BY PROGRAM, IN A SANDBOX (cutbox-door.mjs). By AI agents, Wed Nov 11 2026. No macro, syntax, notation, axiom, sorry.
-/
import Derived.Test.YtdodkbpagbblmaaGreatDoorRows
import GoSem.ClaimSeven
namespace Go.Proofs.YtdodkbpagbblmaaGreatDoor
namespace Rows

/-- THE TIED CARD OF 'rosettalaw03.DeflexTexts'. -/
def deflexTextsCard : Claim7 := { stood := { row := deflexTextsRow, standIns := [], harness := (true, "20b29e57062da96eb6a56655f4b5913adb7259e081675078629910ca9fd0e7e5"), looks := true }, kinds := [], alts := [], laidByText := true, laidKinds := [.data, .data, .data, .sentinel, .sentinel], laidTests := true, laidLooks := .later }
def DeflexTextsCardSaid : Prop := Claim7.holds Tryz.pinned (.plain (OpenSpec.ofChange deflexTextsSpec)) deflexTextsCard

/-- THE TIED CARD OF 'rosettalaw03.DeflexPrints'. -/
def deflexPrintsCard : Claim7 := { stood := { row := deflexPrintsRow, standIns := [], harness := (true, "20b29e57062da96eb6a56655f4b5913adb7259e081675078629910ca9fd0e7e5"), looks := true }, kinds := [], alts := [], laidByText := true, laidKinds := [.data, .data, .data, .sentinel, .sentinel], laidTests := true, laidLooks := .later }
def DeflexPrintsCardSaid : Prop := Claim7.holds Tryz.pinned (.plain (OpenSpec.ofChange deflexPrintsSpec)) deflexPrintsCard

/-- THE TIED CARD OF 'rosettalaw03.DeflexQuotes'. -/
def deflexQuotesCard : Claim7 := { stood := { row := deflexQuotesRow, standIns := [], harness := (true, "20b29e57062da96eb6a56655f4b5913adb7259e081675078629910ca9fd0e7e5"), looks := true }, kinds := [], alts := [], laidByText := true, laidKinds := [.data, .data, .data, .sentinel, .sentinel], laidTests := true, laidLooks := .later }
def DeflexQuotesCardSaid : Prop := Claim7.holds Tryz.pinned (.plain (OpenSpec.ofChange deflexQuotesSpec)) deflexQuotesCard

/-- THE SECOND FORM's CARD OF 'rosettalaw03.DeflexTexts'. -/
def deflexTextsUptoCard : Claim7 := { stood := { row := deflexTextsUptoRow, standIns := [], harness := (true, "20b29e57062da96eb6a56655f4b5913adb7259e081675078629910ca9fd0e7e5"), looks := true }, kinds := [], alts := [], laidByText := true, laidKinds := [.data, .data, .data, .sentinel, .sentinel], laidTests := true, laidLooks := .later }
def DeflexTextsUptoCardSaid : Prop := Claim7.holds Tryz.pinned (.plain (OpenSpec.upto deflexTextsSpec)) deflexTextsUptoCard

/-- THE SECOND FORM's CARD OF 'rosettalaw03.DeflexPrints'. -/
def deflexPrintsUptoCard : Claim7 := { stood := { row := deflexPrintsUptoRow, standIns := [], harness := (true, "20b29e57062da96eb6a56655f4b5913adb7259e081675078629910ca9fd0e7e5"), looks := true }, kinds := [], alts := [], laidByText := true, laidKinds := [.data, .data, .data, .sentinel, .sentinel], laidTests := true, laidLooks := .later }
def DeflexPrintsUptoCardSaid : Prop := Claim7.holds Tryz.pinned (.plain (OpenSpec.upto deflexPrintsSpec)) deflexPrintsUptoCard

/-- THE SECOND FORM's CARD OF 'rosettalaw03.DeflexQuotes'. -/
def deflexQuotesUptoCard : Claim7 := { stood := { row := deflexQuotesUptoRow, standIns := [], harness := (true, "20b29e57062da96eb6a56655f4b5913adb7259e081675078629910ca9fd0e7e5"), looks := true }, kinds := [], alts := [], laidByText := true, laidKinds := [.data, .data, .data, .sentinel, .sentinel], laidTests := true, laidLooks := .later }
def DeflexQuotesUptoCardSaid : Prop := Claim7.holds Tryz.pinned (.plain (OpenSpec.upto deflexQuotesSpec)) deflexQuotesUptoCard
end Rows
end Go.Proofs.YtdodkbpagbblmaaGreatDoor
