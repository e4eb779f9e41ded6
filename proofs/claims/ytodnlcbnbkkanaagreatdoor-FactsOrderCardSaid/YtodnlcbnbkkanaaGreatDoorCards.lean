/-
  DERIVED. GIVEN WITH THE SEED: THE CARDS: each row of YtodnlcbnbkkanaaGreatDoorRows.lean that lists a variable, with what it lists TIED to the program's text (the seventh form; the later family's looks); each row that meets fmt, with fmt's text TOLD by the authors' own Lean function (tested against real Go, not proved from fmt's source: count such statements apart). THE CARD IS WHAT COUNTS. Prove the row's statement (the work); the ties are given (YtodnlcbnbkkanaaGreatDoorTie.lean); close each card by the builder's one call (the guide's Derived/Test/ToyasCard.lean, 'card_holds'). Laid BY PROGRAM, IN A SANDBOX (cutbox-door.mjs). By AI agents, Wed Nov 11 2026. No macro, syntax, notation, axiom, sorry.
-/
import Derived.Test.YtodnlcbnbkkanaaGreatDoorRows
import GoSem.ClaimSeven
namespace Go.Proofs.YtodnlcbnbkkanaaGreatDoor
namespace Rows

/-- THE TIED CARD OF 'rosettalaw08.FactsSorts'. -/
def factsSortsCard : Claim7 := { stood := { row := factsSortsRow, standIns := [], harness := (true, "213e339a9a89128711f8e26979c5aed6a1cb1ececc9432a257beaf1ea285694e"), looks := false }, kinds := [], alts := [], laidByText := true, laidKinds := [.data], laidTests := true, laidLooks := .later }
def FactsSortsCardSaid : Prop := Claim7.holds Tryz.pinned (.plain (OpenSpec.ofChange factsSortsSpec)) factsSortsCard

/-- THE TIED CARD OF 'rosettalaw08.FactsSets'. -/
def factsSetsCard : Claim7 := { stood := { row := factsSetsRow, standIns := [], harness := (true, "213e339a9a89128711f8e26979c5aed6a1cb1ececc9432a257beaf1ea285694e"), looks := false }, kinds := [], alts := [], laidByText := true, laidKinds := [.data], laidTests := true, laidLooks := .later }
def FactsSetsCardSaid : Prop := Claim7.holds Tryz.pinned (.plain (OpenSpec.ofChange factsSetsSpec)) factsSetsCard

/-- THE TIED CARD OF 'rosettalaw08.FactsShort'. -/
def factsShortCard : Claim7 := { stood := { row := factsShortRow, standIns := [], harness := (true, "213e339a9a89128711f8e26979c5aed6a1cb1ececc9432a257beaf1ea285694e"), looks := false }, kinds := [], alts := [], laidByText := true, laidKinds := [.data], laidTests := true, laidLooks := .later }
def FactsShortCardSaid : Prop := Claim7.holds Tryz.pinned (.plain (OpenSpec.ofChange factsShortSpec)) factsShortCard

/-- THE TIED CARD OF 'rosettalaw08.FactsLong'. -/
def factsLongCard : Claim7 := { stood := { row := factsLongRow, standIns := [], harness := (true, "213e339a9a89128711f8e26979c5aed6a1cb1ececc9432a257beaf1ea285694e"), looks := false }, kinds := [], alts := [], laidByText := true, laidKinds := [.data], laidTests := true, laidLooks := .later }
def FactsLongCardSaid : Prop := Claim7.holds Tryz.pinned (.plain (OpenSpec.ofChange factsLongSpec)) factsLongCard

/-- THE TIED CARD OF 'rosettalaw08.FactsTrees'. -/
def factsTreesCard : Claim7 := { stood := { row := factsTreesRow, standIns := [], harness := (true, "213e339a9a89128711f8e26979c5aed6a1cb1ececc9432a257beaf1ea285694e"), looks := false }, kinds := [], alts := [], laidByText := true, laidKinds := [.data], laidTests := true, laidLooks := .later }
def FactsTreesCardSaid : Prop := Claim7.holds Tryz.pinned (.plain (OpenSpec.ofChange factsTreesSpec)) factsTreesCard

/-- THE TIED CARD OF 'rosettalaw08.FactsSame'. -/
def factsSameCard : Claim7 := { stood := { row := factsSameRow, standIns := [], harness := (true, "213e339a9a89128711f8e26979c5aed6a1cb1ececc9432a257beaf1ea285694e"), looks := false }, kinds := [], alts := [], laidByText := true, laidKinds := [.data], laidTests := true, laidLooks := .later }
def FactsSameCardSaid : Prop := Claim7.holds Tryz.pinned (.plain (OpenSpec.ofChange factsSameSpec)) factsSameCard

/-- THE TIED CARD OF 'rosettalaw08.FactsOrder'. -/
def factsOrderCard : Claim7 := { stood := { row := factsOrderRow, standIns := [], harness := (true, "213e339a9a89128711f8e26979c5aed6a1cb1ececc9432a257beaf1ea285694e"), looks := false }, kinds := [], alts := [], laidByText := true, laidKinds := [.data], laidTests := true, laidLooks := .later }
def FactsOrderCardSaid : Prop := Claim7.holds Tryz.pinned (.plain (OpenSpec.ofChange factsOrderSpec)) factsOrderCard

/-- THE SECOND FORM's CARD OF 'rosettalaw08.FactsSorts'. -/
def factsSortsUptoCard : Claim7 := { stood := { row := factsSortsUptoRow, standIns := [], harness := (true, "213e339a9a89128711f8e26979c5aed6a1cb1ececc9432a257beaf1ea285694e"), looks := false }, kinds := [], alts := [], laidByText := true, laidKinds := [.data], laidTests := true, laidLooks := .later }
def FactsSortsUptoCardSaid : Prop := Claim7.holds Tryz.pinned (.plain (OpenSpec.upto factsSortsSpec)) factsSortsUptoCard

/-- THE SECOND FORM's CARD OF 'rosettalaw08.FactsSets'. -/
def factsSetsUptoCard : Claim7 := { stood := { row := factsSetsUptoRow, standIns := [], harness := (true, "213e339a9a89128711f8e26979c5aed6a1cb1ececc9432a257beaf1ea285694e"), looks := false }, kinds := [], alts := [], laidByText := true, laidKinds := [.data], laidTests := true, laidLooks := .later }
def FactsSetsUptoCardSaid : Prop := Claim7.holds Tryz.pinned (.plain (OpenSpec.upto factsSetsSpec)) factsSetsUptoCard

/-- THE SECOND FORM's CARD OF 'rosettalaw08.FactsShort'. -/
def factsShortUptoCard : Claim7 := { stood := { row := factsShortUptoRow, standIns := [], harness := (true, "213e339a9a89128711f8e26979c5aed6a1cb1ececc9432a257beaf1ea285694e"), looks := false }, kinds := [], alts := [], laidByText := true, laidKinds := [.data], laidTests := true, laidLooks := .later }
def FactsShortUptoCardSaid : Prop := Claim7.holds Tryz.pinned (.plain (OpenSpec.upto factsShortSpec)) factsShortUptoCard

/-- THE SECOND FORM's CARD OF 'rosettalaw08.FactsLong'. -/
def factsLongUptoCard : Claim7 := { stood := { row := factsLongUptoRow, standIns := [], harness := (true, "213e339a9a89128711f8e26979c5aed6a1cb1ececc9432a257beaf1ea285694e"), looks := false }, kinds := [], alts := [], laidByText := true, laidKinds := [.data], laidTests := true, laidLooks := .later }
def FactsLongUptoCardSaid : Prop := Claim7.holds Tryz.pinned (.plain (OpenSpec.upto factsLongSpec)) factsLongUptoCard

/-- THE SECOND FORM's CARD OF 'rosettalaw08.FactsTrees'. -/
def factsTreesUptoCard : Claim7 := { stood := { row := factsTreesUptoRow, standIns := [], harness := (true, "213e339a9a89128711f8e26979c5aed6a1cb1ececc9432a257beaf1ea285694e"), looks := false }, kinds := [], alts := [], laidByText := true, laidKinds := [.data], laidTests := true, laidLooks := .later }
def FactsTreesUptoCardSaid : Prop := Claim7.holds Tryz.pinned (.plain (OpenSpec.upto factsTreesSpec)) factsTreesUptoCard

/-- THE SECOND FORM's CARD OF 'rosettalaw08.FactsSame'. -/
def factsSameUptoCard : Claim7 := { stood := { row := factsSameUptoRow, standIns := [], harness := (true, "213e339a9a89128711f8e26979c5aed6a1cb1ececc9432a257beaf1ea285694e"), looks := false }, kinds := [], alts := [], laidByText := true, laidKinds := [.data], laidTests := true, laidLooks := .later }
def FactsSameUptoCardSaid : Prop := Claim7.holds Tryz.pinned (.plain (OpenSpec.upto factsSameSpec)) factsSameUptoCard

/-- THE SECOND FORM's CARD OF 'rosettalaw08.FactsOrder'. -/
def factsOrderUptoCard : Claim7 := { stood := { row := factsOrderUptoRow, standIns := [], harness := (true, "213e339a9a89128711f8e26979c5aed6a1cb1ececc9432a257beaf1ea285694e"), looks := false }, kinds := [], alts := [], laidByText := true, laidKinds := [.data], laidTests := true, laidLooks := .later }
def FactsOrderUptoCardSaid : Prop := Claim7.holds Tryz.pinned (.plain (OpenSpec.upto factsOrderSpec)) factsOrderUptoCard
end Rows
end Go.Proofs.YtodnlcbnbkkanaaGreatDoor
