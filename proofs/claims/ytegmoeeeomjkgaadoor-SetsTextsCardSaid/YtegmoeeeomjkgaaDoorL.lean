import Derived.Test.YtegmoeeeomjkgaaDoorCards
import Derived.Test.YtegmoeeeomjkgaaDoorTie
import Derived.WalkKit
import Derived.ProofKit
import Derived.OpenShut
import Derived.LaidMore
import Derived.Deep.DeepHandedRow
import Derived.Lib.LaidTab
import Derived.Lib.LaidU8
import Derived.Test.YtegmoeeeomjkgaaDoorR
import Derived.Below
import Derived.Carry
import Derived.Deep.DeepWitnessRowRef
namespace Go.Proofs.YtegmoeeeomjkgaaDoor
open Go.ChangeShapes Go.WideShapes Go.ChangeAt Go.RowKit

theorem gTab : Tryd.prog.globalNamed "math/bits.deBruijn64tab" = some 0 := by kernel_rfl
theorem gTabType : (Tryd.prog.globals[0]?).map (·.type) = some 92 := by kernel_rfl
theorem gErr : Tryd.prog.globalNamed "strconv.ErrSyntax" = some 1 := by kernel_rfl
theorem gErrType : (Tryd.prog.globals[1]?).map (·.type) = some 115 := by kernel_rfl
theorem cells92 : Tryd.prog.cellsOf 92 = 64 := by kernel_rfl
theorem cells5 : Tryd.prog.cellsOf 5 = 1 := by kernel_rfl

theorem tab_datum {H : Type} : (Rows.laid_math_bits_deBruijn64tab : DataW H) = Lib.tabData .u8 (Lib.deBruijn64tab.map fun n : Nat => (n : Int)) := rfl

theorem own : ownKnob Tryd.prog.godebug = none := by kernel_rfl
theorem laidOut : laidOutB Tryd.prog = true := by kernel_rfl

/-- A variable of an interface's type is one such value. -/
theorem iface_cells {H : Type} {enc : TypeId × Value → H} {P : Program} {w : World} {base : Nat} {sp : Nat → Bool} {held : Bool} {fuel : Nat} {t : TypeId} {ms : Array (String × TypeId)} {cs : List Value} {x : DataW H × List MemPlace}
    (ht : P.underlying t = some (.interface ms)) (h : DataW.trod enc P w base sp held fuel t cs = some x) : cs = [.nilIface] ∨ ∃ u v, cs = [.iface u v] := by
  cases fuel with
  | zero => simp [DataW.trod] at h
  | succ fuel =>
    rw [DataW.trod.eq_def] at h
    simp only [ht] at h
    split at h <;> simp_all

theorem laid_data {W : World} (h : laidMetH Tryd.prog Rows.setsLawsRow.laid W) : laidMet Tryd.prog Rows.setsLawsRow.laid W := by
  exact h

/-- What every row's list gives: what the program's variables hold. -/
theorem glob_of_laid {W : World} (h : laidMetH Tryd.prog Rows.setsLawsRow.laid W) : Glob W := by
  have hp : laidMet Tryd.prog Rows.setsLawsRow.laid W := laid_data h
  refine ⟨?_, ?_⟩
  · obtain ⟨g, t, cs, fuel, p, hg, ht, hv, hd⟩ := Lib.laidMet.reads hp (.tail _ (.head _))
    obtain rfl := Option.some.inj (gTab.symm.trans hg)
    obtain rfl := Option.some.inj (gTabType.symm.trans ht)
    rw [tab_datum] at hd
    have hcs := Lib.cells_of_tab Tryd.underlying92 Tryd.underlying5 cells5 cells92 hd
    intro j hj
    have := World.var?_cell hg hv j
    rw [this]
    have e : cs[j]? = cs.toList[j]? := by simp
    rw [e, hcs]
    simp [hj]
  · obtain ⟨g, t, cs, fuel, p, hg, ht, hv, hd⟩ := Lib.laidMet.reads hp (.tail _ (.tail _ (.tail _ (.tail _ (.head _)))))
    obtain rfl := Option.some.inj (gErr.symm.trans hg)
    obtain rfl := Option.some.inj (gErrType.symm.trans ht)
    have := World.var?_cell hg hv 0
    rcases iface_cells Tryd.underlying115 hd with hcs | ⟨u, v, hcs⟩
    · rw [Array.eq_one_of_toList hcs] at this
      exact ⟨_, this, .inl rfl⟩
    · rw [Array.eq_one_of_toList hcs] at this
      exact ⟨_, this, .inr ⟨u, v, rfl⟩⟩

theorem cellTypes29 : Tryd.prog.cellTypes Tryd.prog.depth 29 = some [27, 27, 27, 27] := by kernel_rfl
theorem cells29 : Tryd.prog.cellsOf 29 = 4 := by kernel_rfl

set_option maxRecDepth 10000 in
/-- A set handed in is a set of words. -/
theorem open_set {W : World} {base : Nat} {v : Value} (h : Value.okWide Tryd.prog W .any base 29 v) : ∃ s : BS, v = vset s := by
  simp only [Value.okWide, Tryd.underlying29] at h
  obtain ⟨cs, rfl, hsz, ts, hts, _, hc⟩ := h
  rw [cellTypes29] at hts
  obtain rfl := (Option.some.inj hts)
  rw [cells29] at hsz
  have hx : ∀ i < 4, ∃ n : Int, cs[i]? = some (.int .u64 n) ∧ 0 ≤ n ∧ n < 18446744073709551616 := by
    intro i hi
    obtain ⟨v, hv⟩ : ∃ v, cs[i]? = some v := ⟨cs[i], by simp [hsz, hi]⟩
    obtain ⟨u, hu, hok⟩ := hc i v hv
    have hu' : u = 27 := by
      have : i = 0 ∨ i = 1 ∨ i = 2 ∨ i = 3 := by omega
      rcases this with rfl | rfl | rfl | rfl <;> simpa using hu.symm
    subst hu'
    simp only [Cell.okWide, Tryd.underlying27] at hok
    cases v <;> simp_all [Cell.ok, Tryd.underlying27]
    obtain ⟨rfl, h1, h2⟩ := hok
    exact ⟨h1, by have : IntKind.u64.max = 18446744073709551615 := by decide
                  omega⟩
  obtain ⟨a, ha, ra⟩ := hx 0 (by omega)
  obtain ⟨b, hb, rb⟩ := hx 1 (by omega)
  obtain ⟨c, hc', rc⟩ := hx 2 (by omega)
  obtain ⟨d, hd, rd⟩ := hx 3 (by omega)
  obtain ⟨s, rfl, rfl, rfl, rfl⟩ := set_of_words a b c d ra rb rc rd
  refine ⟨s, ?_⟩
  unfold vset
  congr 1
  apply Array.ext_getElem?
  intro i
  by_cases hi : i < 4
  · have : i = 0 ∨ i = 1 ∨ i = 2 ∨ i = 3 := by omega
    rcases this with rfl | rfl | rfl | rfl
    · rw [ha]; rfl
    · rw [hb]; rfl
    · rw [hc']; rfl
    · rw [hd]; rfl
  · rw [Array.getElem?_eq_none (by omega), Array.getElem?_eq_none (by simp; omega)]

/-- The world of a witness: what the variables hold behind the program's start. -/
theorem door_met (os : Os) (args : Array Value) : laidMetH Tryd.prog Rows.setsLawsRow.laid ((World.doorLaid Tryd.prog 62 os).forCall (fun _ _ => 0) ⟨#[], args, []⟩).memory :=
  laidMetH_of_parts3 (fuel := 8) (laidMet_of_run' 8 (by kernel_rfl) (by kernel_rfl)) (by kernel_rfl) (by kernel_rfl)
end Go.Proofs.YtegmoeeeomjkgaaDoor
