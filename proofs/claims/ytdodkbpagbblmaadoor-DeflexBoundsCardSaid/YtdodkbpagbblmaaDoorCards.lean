/-
  DERIVED. GIVEN WITH THE SEED: THE CARDS: each row of YtdodkbpagbblmaaDoorRows.lean that lists a variable, with what it lists TIED to the program's text (the seventh form; the later family's looks); each row that meets fmt, with fmt's text TOLD by the authors' own Lean function (tested against real Go, not proved from fmt's source: count such statements apart). THE CARD IS WHAT COUNTS. Prove the row's statement (the work); the ties are given (YtdodkbpagbblmaaDoorTie.lean); close each card by the builder's one call (the guide's Derived/Test/ToyasCard.lean, 'card_holds'). Laid BY PROGRAM, IN A SANDBOX (cutbox-door.mjs). By AI agents, Wed Nov 11 2026. No macro, syntax, notation, axiom, sorry.
-/
import Derived.Test.YtdodkbpagbblmaaDoorRows
import GoSem.ClaimSeven
namespace Go.Proofs.YtdodkbpagbblmaaDoor
namespace Rows

/-- THE TIED CARD OF 'rosettalaw03.DeflexBounds'. -/
def deflexBoundsCard : Claim7 := { stood := { row := deflexBoundsRow, standIns := [], harness := (true, "ca43498374645eb3cad733545790de167fae3f6c1760b4e671ad37e4a3f918c0"), looks := true }, kinds := [], alts := [], laidByText := true, laidKinds := [.data, .data, .data, .sentinel, .sentinel], laidTests := true, laidLooks := .later }
def DeflexBoundsCardSaid : Prop := Claim7.holds Tryd.pinned (.plain (OpenSpec.ofChange deflexBoundsSpec)) deflexBoundsCard

/-- THE TIED CARD OF 'rosettalaw03.DeflexBack'. -/
def deflexBackCard : Claim7 := { stood := { row := deflexBackRow, standIns := [], harness := (true, "ca43498374645eb3cad733545790de167fae3f6c1760b4e671ad37e4a3f918c0"), looks := true }, kinds := [], alts := [], laidByText := true, laidKinds := [.data, .data, .data, .sentinel, .sentinel], laidTests := true, laidLooks := .later }
def DeflexBackCardSaid : Prop := Claim7.holds Tryd.pinned (.plain (OpenSpec.ofChange deflexBackSpec)) deflexBackCard

/-- THE TIED CARD OF 'rosettalaw03.DeflexGaps'. -/
def deflexGapsCard : Claim7 := { stood := { row := deflexGapsRow, standIns := [], harness := (true, "ca43498374645eb3cad733545790de167fae3f6c1760b4e671ad37e4a3f918c0"), looks := true }, kinds := [], alts := [], laidByText := true, laidKinds := [.data, .data, .data, .sentinel, .sentinel], laidTests := true, laidLooks := .later }
def DeflexGapsCardSaid : Prop := Claim7.holds Tryd.pinned (.plain (OpenSpec.ofChange deflexGapsSpec)) deflexGapsCard

/-- THE TIED CARD OF 'rosettalaw03.DeflexJoin'. -/
def deflexJoinCard : Claim7 := { stood := { row := deflexJoinRow, standIns := [], harness := (true, "ca43498374645eb3cad733545790de167fae3f6c1760b4e671ad37e4a3f918c0"), looks := true }, kinds := [], alts := [], laidByText := true, laidKinds := [.data, .data, .data, .sentinel, .sentinel], laidTests := true, laidLooks := .later }
def DeflexJoinCardSaid : Prop := Claim7.holds Tryd.pinned (.plain (OpenSpec.ofChange deflexJoinSpec)) deflexJoinCard

/-- THE SECOND FORM's CARD OF 'rosettalaw03.DeflexBounds'. -/
def deflexBoundsUptoCard : Claim7 := { stood := { row := deflexBoundsUptoRow, standIns := [], harness := (true, "ca43498374645eb3cad733545790de167fae3f6c1760b4e671ad37e4a3f918c0"), looks := true }, kinds := [], alts := [], laidByText := true, laidKinds := [.data, .data, .data, .sentinel, .sentinel], laidTests := true, laidLooks := .later }
def DeflexBoundsUptoCardSaid : Prop := Claim7.holds Tryd.pinned (.plain (OpenSpec.upto deflexBoundsSpec)) deflexBoundsUptoCard

/-- THE SECOND FORM's CARD OF 'rosettalaw03.DeflexBack'. -/
def deflexBackUptoCard : Claim7 := { stood := { row := deflexBackUptoRow, standIns := [], harness := (true, "ca43498374645eb3cad733545790de167fae3f6c1760b4e671ad37e4a3f918c0"), looks := true }, kinds := [], alts := [], laidByText := true, laidKinds := [.data, .data, .data, .sentinel, .sentinel], laidTests := true, laidLooks := .later }
def DeflexBackUptoCardSaid : Prop := Claim7.holds Tryd.pinned (.plain (OpenSpec.upto deflexBackSpec)) deflexBackUptoCard

/-- THE SECOND FORM's CARD OF 'rosettalaw03.DeflexGaps'. -/
def deflexGapsUptoCard : Claim7 := { stood := { row := deflexGapsUptoRow, standIns := [], harness := (true, "ca43498374645eb3cad733545790de167fae3f6c1760b4e671ad37e4a3f918c0"), looks := true }, kinds := [], alts := [], laidByText := true, laidKinds := [.data, .data, .data, .sentinel, .sentinel], laidTests := true, laidLooks := .later }
def DeflexGapsUptoCardSaid : Prop := Claim7.holds Tryd.pinned (.plain (OpenSpec.upto deflexGapsSpec)) deflexGapsUptoCard

/-- THE SECOND FORM's CARD OF 'rosettalaw03.DeflexJoin'. -/
def deflexJoinUptoCard : Claim7 := { stood := { row := deflexJoinUptoRow, standIns := [], harness := (true, "ca43498374645eb3cad733545790de167fae3f6c1760b4e671ad37e4a3f918c0"), looks := true }, kinds := [], alts := [], laidByText := true, laidKinds := [.data, .data, .data, .sentinel, .sentinel], laidTests := true, laidLooks := .later }
def DeflexJoinUptoCardSaid : Prop := Claim7.holds Tryd.pinned (.plain (OpenSpec.upto deflexJoinSpec)) deflexJoinUptoCard
end Rows
end Go.Proofs.YtdodkbpagbblmaaDoor
