/-
  NARROWER THAN 'FOR EVERY INPUT', by the rows' own cells (each row's printed sentence says how): FactsSorts: laid · FactsSets: laid · FactsShort: laid · FactsLong: laid · FactsTrees: loops, laid · FactsSame: laid · FactsOrder: laid.
  DERIVED. THE GIVEN ROWS OF THIS SEAT. 7 by the template 'for every input the law returns true; each argument reads behind the call as it read before'; 0 by the template 'total and deterministic' (their statements: YtodnlcbnbkkanaaGreatDoorTotals.lean).
  GIVEN WITH THE SEED: the statements are not yours to turn. If you find one false, say at which input.
  Laid BY PROGRAM, IN A SANDBOX (cutbox-rows.mjs): the forced cells as the released guide's own fill.sh prints them over the translation 69d6daed27e706c3… (all of the seat's roots in one cut). By AI agents, Wed Nov 11 2026. No macro, syntax, notation, axiom, sorry.
-/
import Derived.Test.YtodnlcbnbkkanaaGreatDoorChecked
import GoSem.Claim
import GoSem.ClaimJoined
import GoSem.ClaimMapViews
import Derived.JoinedTies
import Derived.KernelRfl
namespace Go.Proofs.YtodnlcbnbkkanaaGreatDoor
/- THE CELL 'sum', in the pinned program and in every row, IS THE sha256 OF THE DUMP (.gsa) THAT YtodnlcbnbkkanaaGreatDoorProg.lean LOADS. Nothing in Lean hashes anything: it is a label: what it is worth is what the hold of that sum in a sandbox is worth. -/
noncomputable def Tryz.pinned : Pinned := { name := "ytodnlcbnbkkanaagreatdoor", sum := "69d6daed27e706c3f1b2a14f95f421cd143a05232e0b1d9e081ff28ded69cba9", checked := Tryz.checked }
namespace Rows
def none {H : Type} : Left H := { results := [], args := [] }

/- WHAT THE LISTED PACKAGE-LEVEL VARIABLES READ AS WHEN THE CALL BEGINS. Each datum BY PROGRAM (the guide's laid-datum.mjs) off the statement by which the dump's own 'gosem.cut.vars' lays the variable. In a bare row this is a premise. The card (YtodnlcbnbkkanaaGreatDoorCards.lean) ties it to the program's text. -/
def laid_math_bits_deBruijn64tab {H : Type} : DataW H := .agg [.lit (.int .u8 0), .lit (.int .u8 1), .lit (.int .u8 56), .lit (.int .u8 2), .lit (.int .u8 57), .lit (.int .u8 49), .lit (.int .u8 28), .lit (.int .u8 3), .lit (.int .u8 61), .lit (.int .u8 58), .lit (.int .u8 42), .lit (.int .u8 50), .lit (.int .u8 38), .lit (.int .u8 29), .lit (.int .u8 17), .lit (.int .u8 4), .lit (.int .u8 62), .lit (.int .u8 47), .lit (.int .u8 59), .lit (.int .u8 36), .lit (.int .u8 45), .lit (.int .u8 43), .lit (.int .u8 51), .lit (.int .u8 22), .lit (.int .u8 53), .lit (.int .u8 39), .lit (.int .u8 33), .lit (.int .u8 30), .lit (.int .u8 24), .lit (.int .u8 18), .lit (.int .u8 12), .lit (.int .u8 5), .lit (.int .u8 63), .lit (.int .u8 55), .lit (.int .u8 48), .lit (.int .u8 27), .lit (.int .u8 60), .lit (.int .u8 41), .lit (.int .u8 37), .lit (.int .u8 16), .lit (.int .u8 46), .lit (.int .u8 35), .lit (.int .u8 44), .lit (.int .u8 21), .lit (.int .u8 52), .lit (.int .u8 32), .lit (.int .u8 23), .lit (.int .u8 11), .lit (.int .u8 54), .lit (.int .u8 26), .lit (.int .u8 40), .lit (.int .u8 15), .lit (.int .u8 34), .lit (.int .u8 20), .lit (.int .u8 31), .lit (.int .u8 10), .lit (.int .u8 25), .lit (.int .u8 14), .lit (.int .u8 19), .lit (.int .u8 9), .lit (.int .u8 13), .lit (.int .u8 8), .lit (.int .u8 7), .lit (.int .u8 6)]

/-- 'rosettalaw08.FactsSorts': WHATEVER THE INPUT: true; the input reads as it did. -/
def factsSortsSpec : ChangeSpec := { name := "factsSorts", fn := fun _ => fun
  | [d] => { results := [.lit (.bool true)], args := [d] }
  | _ => none }
def factsSortsRow : OpenClaim := { program := "ytodnlcbnbkkanaagreatdoor", sum := "69d6daed27e706c3f1b2a14f95f421cd143a05232e0b1d9e081ff28ded69cba9", func := "rosetta/rosettalaw08.FactsSorts", spec := "factsSorts", inPlace := ["internal/bytealg.abigen_runtime_cmpstring", "slices.overlaps[rosetta/facts.offer]", "internal/abi.NoEscape"], unfollowed := true, recurses := true, named := ["math/bits.deBruijn64tab"], plainKeys := false, apart := false, laid := [("math/bits.deBruijn64tab", laid_math_bits_deBruijn64tab)] }
def FactsSortsSaid : Prop := factsSortsRow.holds Tryz.pinned (OpenSpec.ofChange factsSortsSpec)

/-- ITS FALSE NEIGHBOUR: 'it returns false'. Refute it at one input. -/
def factsSortsWrong : ChangeSpec := { name := "factsSorts", fn := fun _ => fun
  | [d] => { results := [.lit (.bool false)], args := [d] }
  | _ => none }
def FactsSortsWrongFalsely : Prop := factsSortsRow.holds Tryz.pinned (OpenSpec.ofChange factsSortsWrong)

/-- 'rosettalaw08.FactsSets': WHATEVER THE INPUT: true; the input reads as it did. -/
def factsSetsSpec : ChangeSpec := { name := "factsSets", fn := fun _ => fun
  | [d] => { results := [.lit (.bool true)], args := [d] }
  | _ => none }
def factsSetsRow : OpenClaim := { program := "ytodnlcbnbkkanaagreatdoor", sum := "69d6daed27e706c3f1b2a14f95f421cd143a05232e0b1d9e081ff28ded69cba9", func := "rosetta/rosettalaw08.FactsSets", spec := "factsSets", inPlace := ["internal/bytealg.abigen_runtime_cmpstring", "slices.overlaps[rosetta/facts.offer]", "internal/abi.NoEscape"], unfollowed := true, recurses := true, named := ["math/bits.deBruijn64tab"], plainKeys := false, apart := false, laid := [("math/bits.deBruijn64tab", laid_math_bits_deBruijn64tab)] }
def FactsSetsSaid : Prop := factsSetsRow.holds Tryz.pinned (OpenSpec.ofChange factsSetsSpec)

/-- ITS FALSE NEIGHBOUR: 'it returns false'. Refute it at one input. -/
def factsSetsWrong : ChangeSpec := { name := "factsSets", fn := fun _ => fun
  | [d] => { results := [.lit (.bool false)], args := [d] }
  | _ => none }
def FactsSetsWrongFalsely : Prop := factsSetsRow.holds Tryz.pinned (OpenSpec.ofChange factsSetsWrong)

/-- 'rosettalaw08.FactsShort': WHATEVER THE INPUT: true; the input reads as it did. -/
def factsShortSpec : ChangeSpec := { name := "factsShort", fn := fun _ => fun
  | [d1, d2] => { results := [.lit (.bool true)], args := [d1, d2] }
  | _ => none }
def factsShortRow : OpenClaim := { program := "ytodnlcbnbkkanaagreatdoor", sum := "69d6daed27e706c3f1b2a14f95f421cd143a05232e0b1d9e081ff28ded69cba9", func := "rosetta/rosettalaw08.FactsShort", spec := "factsShort", inPlace := ["internal/bytealg.abigen_runtime_cmpstring", "slices.overlaps[rosetta/facts.offer]", "internal/abi.NoEscape"], unfollowed := true, recurses := true, named := ["math/bits.deBruijn64tab"], plainKeys := false, apart := false, laid := [("math/bits.deBruijn64tab", laid_math_bits_deBruijn64tab)] }
def FactsShortSaid : Prop := factsShortRow.holds Tryz.pinned (OpenSpec.ofChange factsShortSpec)

/-- ITS FALSE NEIGHBOUR: 'it returns false'. Refute it at one input. -/
def factsShortWrong : ChangeSpec := { name := "factsShort", fn := fun _ => fun
  | [d1, d2] => { results := [.lit (.bool false)], args := [d1, d2] }
  | _ => none }
def FactsShortWrongFalsely : Prop := factsShortRow.holds Tryz.pinned (OpenSpec.ofChange factsShortWrong)

/-- 'rosettalaw08.FactsLong': WHATEVER THE INPUT: true; the input reads as it did. -/
def factsLongSpec : ChangeSpec := { name := "factsLong", fn := fun _ => fun
  | [d] => { results := [.lit (.bool true)], args := [d] }
  | _ => none }
def factsLongRow : OpenClaim := { program := "ytodnlcbnbkkanaagreatdoor", sum := "69d6daed27e706c3f1b2a14f95f421cd143a05232e0b1d9e081ff28ded69cba9", func := "rosetta/rosettalaw08.FactsLong", spec := "factsLong", inPlace := ["internal/bytealg.abigen_runtime_cmpstring", "slices.overlaps[rosetta/facts.offer]", "internal/abi.NoEscape"], unfollowed := true, recurses := true, named := ["math/bits.deBruijn64tab"], plainKeys := false, apart := false, laid := [("math/bits.deBruijn64tab", laid_math_bits_deBruijn64tab)] }
def FactsLongSaid : Prop := factsLongRow.holds Tryz.pinned (OpenSpec.ofChange factsLongSpec)

/-- ITS FALSE NEIGHBOUR: 'it returns false'. Refute it at one input. -/
def factsLongWrong : ChangeSpec := { name := "factsLong", fn := fun _ => fun
  | [d] => { results := [.lit (.bool false)], args := [d] }
  | _ => none }
def FactsLongWrongFalsely : Prop := factsLongRow.holds Tryz.pinned (OpenSpec.ofChange factsLongWrong)

/-- 'rosettalaw08.FactsTrees': WHATEVER THE INPUT: true; the input reads as it did. -/
def factsTreesSpec : ChangeSpec := { name := "factsTrees", fn := fun _ => fun
  | [d1, d2] => { results := [.lit (.bool true)], args := [d1, d2] }
  | _ => none }
def factsTreesRow : OpenClaim := { program := "ytodnlcbnbkkanaagreatdoor", sum := "69d6daed27e706c3f1b2a14f95f421cd143a05232e0b1d9e081ff28ded69cba9", func := "rosetta/rosettalaw08.FactsTrees", spec := "factsTrees", inPlace := ["internal/bytealg.abigen_runtime_cmpstring", "slices.overlaps[rosetta/facts.offer]", "internal/abi.NoEscape"], unfollowed := true, recurses := true, named := ["math/bits.deBruijn64tab"], loops := true, plainKeys := false, apart := false, laid := [("math/bits.deBruijn64tab", laid_math_bits_deBruijn64tab)] }
def FactsTreesSaid : Prop := factsTreesRow.holds Tryz.pinned (OpenSpec.ofChange factsTreesSpec)

/-- ITS FALSE NEIGHBOUR: 'it returns false'. Refute it at one input. -/
def factsTreesWrong : ChangeSpec := { name := "factsTrees", fn := fun _ => fun
  | [d1, d2] => { results := [.lit (.bool false)], args := [d1, d2] }
  | _ => none }
def FactsTreesWrongFalsely : Prop := factsTreesRow.holds Tryz.pinned (OpenSpec.ofChange factsTreesWrong)

/-- 'rosettalaw08.FactsSame': WHATEVER THE INPUT: true; the input reads as it did. -/
def factsSameSpec : ChangeSpec := { name := "factsSame", fn := fun _ => fun
  | [d] => { results := [.lit (.bool true)], args := [d] }
  | _ => none }
def factsSameRow : OpenClaim := { program := "ytodnlcbnbkkanaagreatdoor", sum := "69d6daed27e706c3f1b2a14f95f421cd143a05232e0b1d9e081ff28ded69cba9", func := "rosetta/rosettalaw08.FactsSame", spec := "factsSame", inPlace := ["internal/bytealg.abigen_runtime_cmpstring", "slices.overlaps[rosetta/facts.offer]", "internal/abi.NoEscape"], unfollowed := true, recurses := true, named := ["math/bits.deBruijn64tab"], plainKeys := false, apart := false, laid := [("math/bits.deBruijn64tab", laid_math_bits_deBruijn64tab)] }
def FactsSameSaid : Prop := factsSameRow.holds Tryz.pinned (OpenSpec.ofChange factsSameSpec)

/-- ITS FALSE NEIGHBOUR: 'it returns false'. Refute it at one input. -/
def factsSameWrong : ChangeSpec := { name := "factsSame", fn := fun _ => fun
  | [d] => { results := [.lit (.bool false)], args := [d] }
  | _ => none }
def FactsSameWrongFalsely : Prop := factsSameRow.holds Tryz.pinned (OpenSpec.ofChange factsSameWrong)

/-- 'rosettalaw08.FactsOrder': WHATEVER THE INPUT: true; the input reads as it did. -/
def factsOrderSpec : ChangeSpec := { name := "factsOrder", fn := fun _ => fun
  | [d] => { results := [.lit (.bool true)], args := [d] }
  | _ => none }
def factsOrderRow : OpenClaim := { program := "ytodnlcbnbkkanaagreatdoor", sum := "69d6daed27e706c3f1b2a14f95f421cd143a05232e0b1d9e081ff28ded69cba9", func := "rosetta/rosettalaw08.FactsOrder", spec := "factsOrder", inPlace := ["internal/bytealg.abigen_runtime_cmpstring", "slices.overlaps[rosetta/facts.offer]", "internal/abi.NoEscape"], unfollowed := true, recurses := true, named := ["math/bits.deBruijn64tab"], plainKeys := false, apart := false, laid := [("math/bits.deBruijn64tab", laid_math_bits_deBruijn64tab)] }
def FactsOrderSaid : Prop := factsOrderRow.holds Tryz.pinned (OpenSpec.ofChange factsOrderSpec)

/-- ITS FALSE NEIGHBOUR: 'it returns false'. Refute it at one input. -/
def factsOrderWrong : ChangeSpec := { name := "factsOrder", fn := fun _ => fun
  | [d] => { results := [.lit (.bool false)], args := [d] }
  | _ => none }
def FactsOrderWrongFalsely : Prop := factsOrderRow.holds Tryz.pinned (OpenSpec.ofChange factsOrderWrong)

/- THE SECOND FORM. 'bulk': how many values and letters a reading holds, each counted each time it is reached (what is shared counts as often as it is met; a slice's spare places count too). A statement '..UptoSaid' is the law's where the arguments, and the package variables that the reading takes, are together of bulk at most 1048576: NARROWER than '..Said'. Prove '..Said' where nothing that the law and all that it calls make is longer than what came in: it says more and counts as full. Else prove '..UptoSaid'. A law counts once. -/
mutual
def uptoBulk {H : Type} : DataW H → Nat
  | .lit (.string bytes) => bytes.length + 1
  | .lit _ => 1
  | .nil => 1
  | .ptr d => uptoBulk d + 1
  | .slice elems spare => uptoBulkAll elems + uptoBulkAll spare + 1
  | .agg parts => uptoBulkAll parts + 1
  | .iface _ d => uptoBulk d + 1
  | .map entries => uptoBulkEntries entries + 1
  | .held _ => 1
def uptoBulkAll {H : Type} : List (DataW H) → Nat
  | [] => 0
  | d :: r => uptoBulk d + uptoBulkAll r
def uptoBulkEntries {H : Type} : List (Lit × DataW H) → Nat
  | [] => 0
  | x :: r => uptoBulkEntry x + uptoBulkEntries r
def uptoBulkEntry {H : Type} : Lit × DataW H → Nat
  | (.string bytes, d) => bytes.length + uptoBulk d + 1
  | (_, d) => uptoBulk d + 1
 end
def uptoSmall : (H : Type) → List (DataW H) → Bool := fun _ ds => decide (uptoBulkAll ds ≤ 1048576)
def OpenSpec.upto (s : _root_.Go.ChangeSpec) : _root_.Go.OpenSpec := { _root_.Go.OpenSpec.ofChange s with cond := some uptoSmall }

/-- 'rosettalaw08.FactsSorts', WHERE WHAT IT READS IS OF BULK AT MOST 1048576: true; the input reads as it did. -/
def factsSortsUptoRow : OpenClaim := { program := "ytodnlcbnbkkanaagreatdoor", sum := "69d6daed27e706c3f1b2a14f95f421cd143a05232e0b1d9e081ff28ded69cba9", func := "rosetta/rosettalaw08.FactsSorts", spec := "factsSorts", inPlace := ["internal/bytealg.abigen_runtime_cmpstring", "slices.overlaps[rosetta/facts.offer]", "internal/abi.NoEscape"], unfollowed := true, recurses := true, named := ["math/bits.deBruijn64tab"], plainKeys := false, apart := false, laid := [("math/bits.deBruijn64tab", laid_math_bits_deBruijn64tab)], narrowed := true }
def FactsSortsUptoSaid : Prop := factsSortsUptoRow.holds Tryz.pinned (OpenSpec.upto factsSortsSpec)

/-- 'rosettalaw08.FactsSets', WHERE WHAT IT READS IS OF BULK AT MOST 1048576: true; the input reads as it did. -/
def factsSetsUptoRow : OpenClaim := { program := "ytodnlcbnbkkanaagreatdoor", sum := "69d6daed27e706c3f1b2a14f95f421cd143a05232e0b1d9e081ff28ded69cba9", func := "rosetta/rosettalaw08.FactsSets", spec := "factsSets", inPlace := ["internal/bytealg.abigen_runtime_cmpstring", "slices.overlaps[rosetta/facts.offer]", "internal/abi.NoEscape"], unfollowed := true, recurses := true, named := ["math/bits.deBruijn64tab"], plainKeys := false, apart := false, laid := [("math/bits.deBruijn64tab", laid_math_bits_deBruijn64tab)], narrowed := true }
def FactsSetsUptoSaid : Prop := factsSetsUptoRow.holds Tryz.pinned (OpenSpec.upto factsSetsSpec)

/-- 'rosettalaw08.FactsShort', WHERE WHAT IT READS IS OF BULK AT MOST 1048576: true; the input reads as it did. -/
def factsShortUptoRow : OpenClaim := { program := "ytodnlcbnbkkanaagreatdoor", sum := "69d6daed27e706c3f1b2a14f95f421cd143a05232e0b1d9e081ff28ded69cba9", func := "rosetta/rosettalaw08.FactsShort", spec := "factsShort", inPlace := ["internal/bytealg.abigen_runtime_cmpstring", "slices.overlaps[rosetta/facts.offer]", "internal/abi.NoEscape"], unfollowed := true, recurses := true, named := ["math/bits.deBruijn64tab"], plainKeys := false, apart := false, laid := [("math/bits.deBruijn64tab", laid_math_bits_deBruijn64tab)], narrowed := true }
def FactsShortUptoSaid : Prop := factsShortUptoRow.holds Tryz.pinned (OpenSpec.upto factsShortSpec)

/-- 'rosettalaw08.FactsLong', WHERE WHAT IT READS IS OF BULK AT MOST 1048576: true; the input reads as it did. -/
def factsLongUptoRow : OpenClaim := { program := "ytodnlcbnbkkanaagreatdoor", sum := "69d6daed27e706c3f1b2a14f95f421cd143a05232e0b1d9e081ff28ded69cba9", func := "rosetta/rosettalaw08.FactsLong", spec := "factsLong", inPlace := ["internal/bytealg.abigen_runtime_cmpstring", "slices.overlaps[rosetta/facts.offer]", "internal/abi.NoEscape"], unfollowed := true, recurses := true, named := ["math/bits.deBruijn64tab"], plainKeys := false, apart := false, laid := [("math/bits.deBruijn64tab", laid_math_bits_deBruijn64tab)], narrowed := true }
def FactsLongUptoSaid : Prop := factsLongUptoRow.holds Tryz.pinned (OpenSpec.upto factsLongSpec)

/-- 'rosettalaw08.FactsTrees', WHERE WHAT IT READS IS OF BULK AT MOST 1048576: true; the input reads as it did. -/
def factsTreesUptoRow : OpenClaim := { program := "ytodnlcbnbkkanaagreatdoor", sum := "69d6daed27e706c3f1b2a14f95f421cd143a05232e0b1d9e081ff28ded69cba9", func := "rosetta/rosettalaw08.FactsTrees", spec := "factsTrees", inPlace := ["internal/bytealg.abigen_runtime_cmpstring", "slices.overlaps[rosetta/facts.offer]", "internal/abi.NoEscape"], unfollowed := true, recurses := true, named := ["math/bits.deBruijn64tab"], loops := true, plainKeys := false, apart := false, laid := [("math/bits.deBruijn64tab", laid_math_bits_deBruijn64tab)], narrowed := true }
def FactsTreesUptoSaid : Prop := factsTreesUptoRow.holds Tryz.pinned (OpenSpec.upto factsTreesSpec)

/-- 'rosettalaw08.FactsSame', WHERE WHAT IT READS IS OF BULK AT MOST 1048576: true; the input reads as it did. -/
def factsSameUptoRow : OpenClaim := { program := "ytodnlcbnbkkanaagreatdoor", sum := "69d6daed27e706c3f1b2a14f95f421cd143a05232e0b1d9e081ff28ded69cba9", func := "rosetta/rosettalaw08.FactsSame", spec := "factsSame", inPlace := ["internal/bytealg.abigen_runtime_cmpstring", "slices.overlaps[rosetta/facts.offer]", "internal/abi.NoEscape"], unfollowed := true, recurses := true, named := ["math/bits.deBruijn64tab"], plainKeys := false, apart := false, laid := [("math/bits.deBruijn64tab", laid_math_bits_deBruijn64tab)], narrowed := true }
def FactsSameUptoSaid : Prop := factsSameUptoRow.holds Tryz.pinned (OpenSpec.upto factsSameSpec)

/-- 'rosettalaw08.FactsOrder', WHERE WHAT IT READS IS OF BULK AT MOST 1048576: true; the input reads as it did. -/
def factsOrderUptoRow : OpenClaim := { program := "ytodnlcbnbkkanaagreatdoor", sum := "69d6daed27e706c3f1b2a14f95f421cd143a05232e0b1d9e081ff28ded69cba9", func := "rosetta/rosettalaw08.FactsOrder", spec := "factsOrder", inPlace := ["internal/bytealg.abigen_runtime_cmpstring", "slices.overlaps[rosetta/facts.offer]", "internal/abi.NoEscape"], unfollowed := true, recurses := true, named := ["math/bits.deBruijn64tab"], plainKeys := false, apart := false, laid := [("math/bits.deBruijn64tab", laid_math_bits_deBruijn64tab)], narrowed := true }
def FactsOrderUptoSaid : Prop := factsOrderUptoRow.holds Tryz.pinned (OpenSpec.upto factsOrderSpec)

end Rows
end Go.Proofs.YtodnlcbnbkkanaaGreatDoor
