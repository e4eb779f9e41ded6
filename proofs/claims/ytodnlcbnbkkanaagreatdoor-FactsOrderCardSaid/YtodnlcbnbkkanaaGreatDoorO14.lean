import Derived.Test.YtodnlcbnbkkanaaGreatDoorCards
import Derived.Test.YtodnlcbnbkkanaaGreatDoorTie
import Derived.WalkKit
import Derived.ProofKit
import Derived.OpenShut
import Derived.LaidMore
import Derived.Deep.DeepHandedRow
import Derived.Lib.LaidTab
import Derived.Lib.LaidU8
import Derived.Below
import Derived.Carry
import Derived.Deep.DeepWitnessRowRef
import Derived.Test.YtodnlcbnbkkanaaGreatDoorO6
section
namespace Go.Proofs.YtodnlcbnbkkanaaGreatDoor
open Go.ChangeShapes Go.WideShapes Go.ChangeAt Go.RowKit

theorem gTab : Tryz.prog.globalNamed "math/bits.deBruijn64tab" = some 1 := by kernel_rfl
theorem gTabType : (Tryz.prog.globals[1]?).map (·.type) = some 222 := by kernel_rfl
theorem cellsTab : Tryz.prog.cellsOf 222 = 64 := by kernel_rfl
theorem cells5b : Tryz.prog.cellsOf 5 = 1 := by kernel_rfl

theorem tab_datum {H : Type} : (Rows.laid_math_bits_deBruijn64tab : DataW H) = Lib.tabData .u8 (Lib.deBruijn64tab.map fun n : Nat => (n : Int)) := rfl

theorem own : ownKnob Tryz.prog.godebug = none := by kernel_rfl

set_option maxRecDepth 100000 in
theorem glob_of_laid {W : World} (h : laidMetH Tryz.prog Rows.factsSortsRow.laid W) : TabAt 1 Lib.deBruijn64tab W := by
  have hp : laidMet Tryz.prog Rows.factsSortsRow.laid W := h
  obtain ⟨g, t, cs, fuel, p, hg, ht, hv, hd⟩ := Lib.laidMet.reads hp (.head _)
  obtain rfl := Option.some.inj (gTab.symm.trans hg)
  obtain rfl := Option.some.inj (gTabType.symm.trans ht)
  rw [tab_datum] at hd
  have hcs := Lib.cells_of_tab Tryz.underlying222 Tryz.underlying5 cells5b cellsTab hd
  intro j hj
  have := World.var?_cell hg hv j
  rw [this]
  have e : cs[j]? = cs.toList[j]? := by simp
  rw [e, hcs]
  simp [hj]

theorem door_met (os : Os) (args : Array Value) : laidMetH Tryz.prog Rows.factsSortsRow.laid ((World.doorLaid Tryz.prog 65 os).forCall (fun _ _ => 0) ⟨#[], args, []⟩).memory :=
  laidMetH_of_parts3 (fuel := 8) (laidMet_of_run' 8 (by kernel_rfl) (by kernel_rfl)) (by kernel_rfl) (by kernel_rfl)
end Go.Proofs.YtodnlcbnbkkanaaGreatDoor
end
