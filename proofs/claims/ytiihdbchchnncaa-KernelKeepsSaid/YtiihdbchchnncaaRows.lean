/-
  NARROWER THAN 'FOR EVERY INPUT', by the rows' own cells (each row's printed sentence says how): KernelTrees: loops · KernelKeeps: loops.
  DERIVED. THE GIVEN ROWS OF THIS SEAT. 6 by the template 'for every input the law returns true; each argument reads behind the call as it read before'; 0 by the template 'total and deterministic' (their statements: YtiihdbchchnncaaTotals.lean).
  GIVEN WITH THE SEED: the statements are not yours to turn. If you find one false, say at which input.
  Laid BY PROGRAM, IN A SANDBOX (cutbox-rows.mjs): the forced cells as the released guide's own fill.sh prints them over the translation d99b73be5512ec94… (all of the seat's roots in one cut). By AI agents, Wed Nov 11 2026. No macro, syntax, notation, axiom, sorry.
-/
import Derived.Test.YtiihdbchchnncaaChecked
import GoSem.Claim
import GoSem.ClaimJoined
import GoSem.ClaimMapViews
import Derived.JoinedTies
import Derived.KernelRfl
namespace Go.Proofs.Ytiihdbchchnncaa
/- THE CELL 'sum', in the pinned program and in every row, IS THE sha256 OF THE DUMP (.gsa) THAT YtiihdbchchnncaaProg.lean LOADS. Nothing in Lean hashes anything: it is a label: what it is worth is what the hold of that sum in a sandbox is worth. -/
noncomputable def Try.pinned : Pinned := { name := "ytiihdbchchnncaa", sum := "d99b73be5512ec94b0ab02dc024f98c793fab9c6d89d99f2db460ff656b0139c", checked := Try.checked }
namespace Rows
def none {H : Type} : Left H := { results := [], args := [] }

/-- 'rosettalaw06.KernelChecks': WHATEVER THE INPUT: true; the input reads as it did. -/
def kernelChecksSpec : ChangeSpec := { name := "kernelChecks", fn := fun _ => fun
  | [d1, d2, d3] => { results := [.lit (.bool true)], args := [d1, d2, d3] }
  | _ => none }
def kernelChecksRow : OpenClaim := { program := "ytiihdbchchnncaa", sum := "d99b73be5512ec94b0ab02dc024f98c793fab9c6d89d99f2db460ff656b0139c", func := "rosetta/rosettalaw06.KernelChecks", spec := "kernelChecks", unfollowed := true, recurses := true, plainKeys := false, apart := false }
def KernelChecksSaid : Prop := kernelChecksRow.holds Try.pinned (OpenSpec.ofChange kernelChecksSpec)

/-- ITS FALSE NEIGHBOUR: 'it returns false'. Refute it at one input. -/
def kernelChecksWrong : ChangeSpec := { name := "kernelChecks", fn := fun _ => fun
  | [d1, d2, d3] => { results := [.lit (.bool false)], args := [d1, d2, d3] }
  | _ => none }
def KernelChecksWrongFalsely : Prop := kernelChecksRow.holds Try.pinned (OpenSpec.ofChange kernelChecksWrong)

/-- 'rosettalaw06.KernelSame': WHATEVER THE INPUT: true; the input reads as it did. -/
def kernelSameSpec : ChangeSpec := { name := "kernelSame", fn := fun _ => fun
  | [d1, d2] => { results := [.lit (.bool true)], args := [d1, d2] }
  | _ => none }
def kernelSameRow : OpenClaim := { program := "ytiihdbchchnncaa", sum := "d99b73be5512ec94b0ab02dc024f98c793fab9c6d89d99f2db460ff656b0139c", func := "rosetta/rosettalaw06.KernelSame", spec := "kernelSame", unfollowed := true, recurses := true, plainKeys := false, apart := false }
def KernelSameSaid : Prop := kernelSameRow.holds Try.pinned (OpenSpec.ofChange kernelSameSpec)

/-- ITS FALSE NEIGHBOUR: 'it returns false'. Refute it at one input. -/
def kernelSameWrong : ChangeSpec := { name := "kernelSame", fn := fun _ => fun
  | [d1, d2] => { results := [.lit (.bool false)], args := [d1, d2] }
  | _ => none }
def KernelSameWrongFalsely : Prop := kernelSameRow.holds Try.pinned (OpenSpec.ofChange kernelSameWrong)

/-- 'rosettalaw06.KernelTrees': WHATEVER THE INPUT: true; the input reads as it did. -/
def kernelTreesSpec : ChangeSpec := { name := "kernelTrees", fn := fun _ => fun
  | [d1, d2] => { results := [.lit (.bool true)], args := [d1, d2] }
  | _ => none }
def kernelTreesRow : OpenClaim := { program := "ytiihdbchchnncaa", sum := "d99b73be5512ec94b0ab02dc024f98c793fab9c6d89d99f2db460ff656b0139c", func := "rosetta/rosettalaw06.KernelTrees", spec := "kernelTrees", unfollowed := true, recurses := true, loops := true, plainKeys := false, apart := false }
def KernelTreesSaid : Prop := kernelTreesRow.holds Try.pinned (OpenSpec.ofChange kernelTreesSpec)

/-- ITS FALSE NEIGHBOUR: 'it returns false'. Refute it at one input. -/
def kernelTreesWrong : ChangeSpec := { name := "kernelTrees", fn := fun _ => fun
  | [d1, d2] => { results := [.lit (.bool false)], args := [d1, d2] }
  | _ => none }
def KernelTreesWrongFalsely : Prop := kernelTreesRow.holds Try.pinned (OpenSpec.ofChange kernelTreesWrong)

/-- 'rosettalaw06.KernelTrim': WHATEVER THE INPUT: true; the input reads as it did. -/
def kernelTrimSpec : ChangeSpec := { name := "kernelTrim", fn := fun _ => fun
  | [d] => { results := [.lit (.bool true)], args := [d] }
  | _ => none }
def kernelTrimRow : OpenClaim := { program := "ytiihdbchchnncaa", sum := "d99b73be5512ec94b0ab02dc024f98c793fab9c6d89d99f2db460ff656b0139c", func := "rosetta/rosettalaw06.KernelTrim", spec := "kernelTrim", unfollowed := true, recurses := true, plainKeys := false, apart := false }
def KernelTrimSaid : Prop := kernelTrimRow.holds Try.pinned (OpenSpec.ofChange kernelTrimSpec)

/-- ITS FALSE NEIGHBOUR: 'it returns false'. Refute it at one input. -/
def kernelTrimWrong : ChangeSpec := { name := "kernelTrim", fn := fun _ => fun
  | [d] => { results := [.lit (.bool false)], args := [d] }
  | _ => none }
def KernelTrimWrongFalsely : Prop := kernelTrimRow.holds Try.pinned (OpenSpec.ofChange kernelTrimWrong)

/-- 'rosettalaw06.KernelDeep': WHATEVER THE INPUT: true; the input reads as it did. -/
def kernelDeepSpec : ChangeSpec := { name := "kernelDeep", fn := fun _ => fun
  | [d] => { results := [.lit (.bool true)], args := [d] }
  | _ => none }
def kernelDeepRow : OpenClaim := { program := "ytiihdbchchnncaa", sum := "d99b73be5512ec94b0ab02dc024f98c793fab9c6d89d99f2db460ff656b0139c", func := "rosetta/rosettalaw06.KernelDeep", spec := "kernelDeep", unfollowed := true, recurses := true, plainKeys := false, apart := false }
def KernelDeepSaid : Prop := kernelDeepRow.holds Try.pinned (OpenSpec.ofChange kernelDeepSpec)

/-- ITS FALSE NEIGHBOUR: 'it returns false'. Refute it at one input. -/
def kernelDeepWrong : ChangeSpec := { name := "kernelDeep", fn := fun _ => fun
  | [d] => { results := [.lit (.bool false)], args := [d] }
  | _ => none }
def KernelDeepWrongFalsely : Prop := kernelDeepRow.holds Try.pinned (OpenSpec.ofChange kernelDeepWrong)

/-- 'rosettalaw06.KernelKeeps': WHATEVER THE INPUT: true; the input reads as it did. -/
def kernelKeepsSpec : ChangeSpec := { name := "kernelKeeps", fn := fun _ => fun
  | [d1, d2] => { results := [.lit (.bool true)], args := [d1, d2] }
  | _ => none }
def kernelKeepsRow : OpenClaim := { program := "ytiihdbchchnncaa", sum := "d99b73be5512ec94b0ab02dc024f98c793fab9c6d89d99f2db460ff656b0139c", func := "rosetta/rosettalaw06.KernelKeeps", spec := "kernelKeeps", unfollowed := true, recurses := true, loops := true, plainKeys := false, apart := false }
def KernelKeepsSaid : Prop := kernelKeepsRow.holds Try.pinned (OpenSpec.ofChange kernelKeepsSpec)

/-- ITS FALSE NEIGHBOUR: 'it returns false'. Refute it at one input. -/
def kernelKeepsWrong : ChangeSpec := { name := "kernelKeeps", fn := fun _ => fun
  | [d1, d2] => { results := [.lit (.bool false)], args := [d1, d2] }
  | _ => none }
def KernelKeepsWrongFalsely : Prop := kernelKeepsRow.holds Try.pinned (OpenSpec.ofChange kernelKeepsWrong)

/- THE SECOND FORM. 'bulk': how many values and letters a reading holds, each counted each time it is reached (what is shared counts as often as it is met; a slice's spare places count too). A statement '..UptoSaid' is the law's where the arguments, and the package variables that the reading takes, are together of bulk at most 1048576: NARROWER than '..Said'. Prove '..Said' where nothing that the law and all that it calls make is longer than what came in: it says more and counts as full. Else prove '..UptoSaid'. A law counts once. -/
mutual
def uptoBulk {H : Type} : DataW H → Nat
  | .lit (.string bytes) => bytes.length + 1
  | .lit _ => 1
  | .nil => 1
  | .ptr d => uptoBulk d + 1
  | .slice elems spare => uptoBulkAll elems + uptoBulkAll spare + 1
  | .agg parts => uptoBulkAll parts + 1
  | .iface _ d => uptoBulk d + 1
  | .map entries => uptoBulkEntries entries + 1
  | .held _ => 1
def uptoBulkAll {H : Type} : List (DataW H) → Nat
  | [] => 0
  | d :: r => uptoBulk d + uptoBulkAll r
def uptoBulkEntries {H : Type} : List (Lit × DataW H) → Nat
  | [] => 0
  | x :: r => uptoBulkEntry x + uptoBulkEntries r
def uptoBulkEntry {H : Type} : Lit × DataW H → Nat
  | (.string bytes, d) => bytes.length + uptoBulk d + 1
  | (_, d) => uptoBulk d + 1
 end
def uptoSmall : (H : Type) → List (DataW H) → Bool := fun _ ds => decide (uptoBulkAll ds ≤ 1048576)
def OpenSpec.upto (s : _root_.Go.ChangeSpec) : _root_.Go.OpenSpec := { _root_.Go.OpenSpec.ofChange s with cond := some uptoSmall }

/-- 'rosettalaw06.KernelChecks', WHERE WHAT IT READS IS OF BULK AT MOST 1048576: true; the input reads as it did. -/
def kernelChecksUptoRow : OpenClaim := { program := "ytiihdbchchnncaa", sum := "d99b73be5512ec94b0ab02dc024f98c793fab9c6d89d99f2db460ff656b0139c", func := "rosetta/rosettalaw06.KernelChecks", spec := "kernelChecks", unfollowed := true, recurses := true, plainKeys := false, apart := false, narrowed := true }
def KernelChecksUptoSaid : Prop := kernelChecksUptoRow.holds Try.pinned (OpenSpec.upto kernelChecksSpec)

/-- 'rosettalaw06.KernelSame', WHERE WHAT IT READS IS OF BULK AT MOST 1048576: true; the input reads as it did. -/
def kernelSameUptoRow : OpenClaim := { program := "ytiihdbchchnncaa", sum := "d99b73be5512ec94b0ab02dc024f98c793fab9c6d89d99f2db460ff656b0139c", func := "rosetta/rosettalaw06.KernelSame", spec := "kernelSame", unfollowed := true, recurses := true, plainKeys := false, apart := false, narrowed := true }
def KernelSameUptoSaid : Prop := kernelSameUptoRow.holds Try.pinned (OpenSpec.upto kernelSameSpec)

/-- 'rosettalaw06.KernelTrees', WHERE WHAT IT READS IS OF BULK AT MOST 1048576: true; the input reads as it did. -/
def kernelTreesUptoRow : OpenClaim := { program := "ytiihdbchchnncaa", sum := "d99b73be5512ec94b0ab02dc024f98c793fab9c6d89d99f2db460ff656b0139c", func := "rosetta/rosettalaw06.KernelTrees", spec := "kernelTrees", unfollowed := true, recurses := true, loops := true, plainKeys := false, apart := false, narrowed := true }
def KernelTreesUptoSaid : Prop := kernelTreesUptoRow.holds Try.pinned (OpenSpec.upto kernelTreesSpec)

/-- 'rosettalaw06.KernelTrim', WHERE WHAT IT READS IS OF BULK AT MOST 1048576: true; the input reads as it did. -/
def kernelTrimUptoRow : OpenClaim := { program := "ytiihdbchchnncaa", sum := "d99b73be5512ec94b0ab02dc024f98c793fab9c6d89d99f2db460ff656b0139c", func := "rosetta/rosettalaw06.KernelTrim", spec := "kernelTrim", unfollowed := true, recurses := true, plainKeys := false, apart := false, narrowed := true }
def KernelTrimUptoSaid : Prop := kernelTrimUptoRow.holds Try.pinned (OpenSpec.upto kernelTrimSpec)

/-- 'rosettalaw06.KernelDeep', WHERE WHAT IT READS IS OF BULK AT MOST 1048576: true; the input reads as it did. -/
def kernelDeepUptoRow : OpenClaim := { program := "ytiihdbchchnncaa", sum := "d99b73be5512ec94b0ab02dc024f98c793fab9c6d89d99f2db460ff656b0139c", func := "rosetta/rosettalaw06.KernelDeep", spec := "kernelDeep", unfollowed := true, recurses := true, plainKeys := false, apart := false, narrowed := true }
def KernelDeepUptoSaid : Prop := kernelDeepUptoRow.holds Try.pinned (OpenSpec.upto kernelDeepSpec)

/-- 'rosettalaw06.KernelKeeps', WHERE WHAT IT READS IS OF BULK AT MOST 1048576: true; the input reads as it did. -/
def kernelKeepsUptoRow : OpenClaim := { program := "ytiihdbchchnncaa", sum := "d99b73be5512ec94b0ab02dc024f98c793fab9c6d89d99f2db460ff656b0139c", func := "rosetta/rosettalaw06.KernelKeeps", spec := "kernelKeeps", unfollowed := true, recurses := true, loops := true, plainKeys := false, apart := false, narrowed := true }
def KernelKeepsUptoSaid : Prop := kernelKeepsUptoRow.holds Try.pinned (OpenSpec.upto kernelKeepsSpec)

end Rows
end Go.Proofs.Ytiihdbchchnncaa
