import Derived.Test.YtdodkbpagbblmaaDoorCards
import Derived.Test.YtdodkbpagbblmaaDoorTie
import Derived.WalkKit
import Derived.ProofKit
import Derived.OpenShut
import Derived.LaidMore
import Derived.Deep.DeepHandedRow
import Derived.Lib.LaidTab
import Derived.Lib.LaidU8
import Derived.Test.YtdodkbpagbblmaaDoorQ10
import Derived.Below
import Derived.Carry
import Derived.Deep.DeepWitnessRowRef
namespace Go.Proofs.YtdodkbpagbblmaaDoor
open Go.ChangeShapes Go.WideShapes Go.ChangeAt Go.RowKit

theorem gTab : Tryd.prog.globalNamed "math/bits.deBruijn64tab" = some 3 := by kernel_rfl
theorem gTabType : (Tryd.prog.globals[3]?).map (·.type) = some 122 := by kernel_rfl
theorem gErr : Tryd.prog.globalNamed "strconv.ErrSyntax" = some 1 := by kernel_rfl
theorem gErrType : (Tryd.prog.globals[1]?).map (·.type) = some 73 := by kernel_rfl
theorem gPowType : (Tryd.prog.globals[4]?).map (·.type) = some 124 := by kernel_rfl
theorem cells122 : Tryd.prog.cellsOf 122 = 64 := by kernel_rfl
theorem cells124 : Tryd.prog.cellsOf 124 = 20 := by kernel_rfl
theorem cells5 : Tryd.prog.cellsOf 5 = 1 := by kernel_rfl

theorem tab_datum {H : Type} : (Rows.laid_math_bits_deBruijn64tab : DataW H) = Lib.tabData .u8 (Lib.deBruijn64tab.map fun n : Nat => (n : Int)) := rfl
theorem pow_datum {H : Type} : (Rows.laid_internal_strconv_uint64pow10 : DataW H) = Lib.tabData .u64 Lib.pow10Tab := rfl

theorem own : ownKnob Tryd.prog.godebug = none := by kernel_rfl
theorem laidOut : laidOutB Tryd.prog = true := by kernel_rfl

/-- A variable of an interface's type is one such value. -/
theorem iface_cells {H : Type} {enc : TypeId × Value → H} {P : Program} {w : World} {base : Nat} {sp : Nat → Bool} {held : Bool} {fuel : Nat} {t : TypeId} {ms : Array (String × TypeId)} {cs : List Value} {x : DataW H × List MemPlace}
    (ht : P.underlying t = some (.interface ms)) (h : DataW.trod enc P w base sp held fuel t cs = some x) : cs = [.nilIface] ∨ ∃ u v, cs = [.iface u v] := by
  cases fuel with
  | zero => simp [DataW.trod] at h
  | succ fuel =>
    rw [DataW.trod.eq_def] at h
    simp only [ht] at h
    split at h <;> simp_all

set_option maxRecDepth 100000 in
/-- What every row's list gives: what the program's variables hold. -/
theorem glob_of_laid {W : World} (h : laidMetH Tryd.prog Rows.deflexJoinRow.laid W) : GlobD W := by
  have hp : laidMet Tryd.prog Rows.deflexJoinRow.laid W := h
  have hpow : Lib.TabIs Tryd.prog W "internal/strconv.uint64pow10" .u64 Lib.pow10Tab := by
    obtain ⟨g, t, cs, fuel, p, hg, ht, hv, hd⟩ := Lib.laidMet.reads hp (.tail _ (.tail _ (.head _)))
    obtain rfl := Option.some.inj (pow_global.symm.trans hg)
    obtain rfl := Option.some.inj (gPowType.symm.trans ht)
    rw [pow_datum] at hd
    have hcs := Lib.cells_of_tab Tryd.underlying124 Tryd.underlying34 (by kernel_rfl) cells124 hd
    unfold Lib.TabIs
    rw [hv, ← hcs]
  refine ⟨⟨?_, ?_⟩, hpow, ?_⟩
  · obtain ⟨g, t, cs, fuel, p, hg, ht, hv, hd⟩ := Lib.laidMet.reads hp (.tail _ (.head _))
    obtain rfl := Option.some.inj (gTab.symm.trans hg)
    obtain rfl := Option.some.inj (gTabType.symm.trans ht)
    rw [tab_datum] at hd
    have hcs := Lib.cells_of_tab Tryd.underlying122 Tryd.underlying5 cells5 cells122 hd
    intro j hj
    have := World.var?_cell hg hv j
    rw [this]
    have e : cs[j]? = cs.toList[j]? := by simp
    rw [e, hcs]
    simp [hj]
  · obtain ⟨g, t, cs, fuel, p, hg, ht, hv, hd⟩ := Lib.laidMet.reads hp (.tail _ (.tail _ (.tail _ (.tail _ (.head _)))))
    obtain rfl := Option.some.inj (gErr.symm.trans hg)
    obtain rfl := Option.some.inj (gErrType.symm.trans ht)
    have := World.var?_cell hg hv 0
    rcases iface_cells Tryd.underlying73 hd with hcs | ⟨u, v, hcs⟩
    · rw [Array.eq_one_of_toList hcs] at this
      exact ⟨_, this, .inl rfl⟩
    · rw [Array.eq_one_of_toList hcs] at this
      exact ⟨_, this, .inr ⟨u, v, rfl⟩⟩
  · exact lt_of_cell (Lib.TabIs.cell hpow pow_global 0 (by decide))

/-- The world of a witness: what the variables hold behind the program's start. -/
theorem door_met (os : Os) (args : Array Value) : laidMetH Tryd.prog Rows.deflexJoinRow.laid ((World.doorLaid Tryd.prog 62 os).forCall (fun _ _ => 0) ⟨#[], args, []⟩).memory :=
  laidMetH_of_parts3 (fuel := 8) (laidMet_of_run' 8 (by kernel_rfl) (by kernel_rfl)) (by kernel_rfl) (by kernel_rfl)
end Go.Proofs.YtdodkbpagbblmaaDoor
