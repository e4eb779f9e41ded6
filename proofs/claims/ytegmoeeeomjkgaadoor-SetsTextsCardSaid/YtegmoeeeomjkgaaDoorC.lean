import Derived.Test.YtegmoeeeomjkgaaDoorE
namespace Go.Proofs.YtegmoeeeomjkgaaDoor
open Go Go.RowKit

set_option maxRecDepth 100000 in
set_option maxHeartbeats 1000000 in
theorem within_any (s t : BS) (w : World) : Calls Tryd.prog 30 #[vset s, vset t] w fun e w' => e = .returned (.bool (s &&& t == s)) ∧ Below w.heap.size w w' := by
  unfold vset
  have HE := eq_sets (s &&& t) s
  go_enter Tryd.func30, Tryd.ntmps30
  have hb := (Blk.new w 29 #[.int .u64 (wdI s 0), .int .u64 (wdI s 1), .int .u64 (wdI s 2), .int .u64 (wdI s 3)]).alloc (.cells #[.int .u64 (wdI t 0), .int .u64 (wdI t 1), .int .u64 (wdI t 2), .int .u64 (wdI t 3)] 29)
  go_wp2
  go_region_with (go_at_call 26; refine (meet_any s t _).mono ?_; rintro e w' ⟨rfl, hB⟩; have hb2 := Blk.below (B := w.heap.size) (Blk.drew hb) hB (by simp; omega); have c0 : w'.cell? ⟨w.heap.size, 0, none⟩ = some (.int .u64 (wdI s 0)) := hb2.cell 0; have c1 : w'.cell? ⟨w.heap.size, 1, none⟩ = some (.int .u64 (wdI s 1)) := hb2.cell 1; have c2 : w'.cell? ⟨w.heap.size, 2, none⟩ = some (.int .u64 (wdI s 2)) := hb2.cell 2; have c3 : w'.cell? ⟨w.heap.size, 3, none⟩ = some (.int .u64 (wdI s 3)) := hb2.cell 3; unfold vset)
  all_goals go_wp2
  all_goals go_ret
  all_goals exact ⟨rfl, below_drew_trans (((Below.refl _ w).alloc (Nat.le_refl _) _).alloc (by simp) _) (by assumption)⟩

end Go.Proofs.YtegmoeeeomjkgaaDoor
