import Derived.Test.YtegmoeeeomjkgaaDoorT3
import Derived.Test.YtegmoeeeomjkgaaDoorR4
namespace Go.Proofs.YtegmoeeeomjkgaaDoor
open Go Go.RowKit Go.Shelf

/-- The set of the letters a to z and a line end. -/
def wset : BS := 10633823807823001954701781295154856960#256

theorem w_make : makeV [(97, 122), (10, 10)] = .tuple #[vset wset, .int .i64 0] := by
  have h : makeR 0#256 [(97, 122), (10, 10)] = some wset := by decide +kernel
  unfold makeV; rw [h]
theorem w_read : readS [91, 92, 110, 97, 45, 122, 93] = some wset := by decide +kernel
theorem w_bad : readS [91, 122, 45, 97, 93] = none := by decide +kernel
theorem w_text : textS wset = [91, 92, 110, 97, 45, 122, 93] := by decide +kernel
theorem w_count : cnt wset = 27 := by decide +kernel
theorem w_q : wset.getLsbD 113 = true := by decide
theorem w_Q : wset.getLsbD 81 = false := by decide
end Go.Proofs.YtegmoeeeomjkgaaDoor
