import Derived.Test.YtmlkeddiagmedaaB
import Derived.Deep.RegionHeld3
namespace Go.Proofs.Ytmlkeddiagmedaa
open Go.RowKit

def cmpEd (f u f' u' : Int) : Int := orI (cmpI f f') (cmpI u u')

theorem heap_new (w : World) (o : Obj) : (w.alloc o).heap[w.heap.size]? = some o := by
  show (w.heap.push o)[w.heap.size]? = some o
  simp

theorem cell_of {w : World} {b : Nat} {cs : Array Value} {t : TypeId} {fz : Nat × Nat} (h : w.heap[b]? = some (.cells cs t fz)) (i : Nat) : w.cell? ⟨b, i, none⟩ = cs[i]? := by
  unfold World.cell?
  simp only [h]
  rfl

theorem cell_new (w : World) (cs : Array Value) (t i : Nat) (v : Value) (h : cs[i]? = some v) (n : Nat) (hn : n = w.heap.size) : (w.alloc (.cells cs t)).cell? ⟨n, i, none⟩ = some v := by
  subst hn
  rw [cell_of (heap_new w _), h]

theorem or_at (A B : Obj) (x y : Int) (w : World) : Calls Try.prog 59 #[.slice (some ⟨w.heap.size + 1 + 1, 0, none⟩) 2 2] (((w.alloc A).alloc B).alloc (.cells #[.int .i64 x, .int .i64 y] 3)).drew
    fun e w' => e = .returned (.int .i64 (orI x y)) ∧ (((w.alloc A).alloc B).alloc (.cells #[.int .i64 x, .int .i64 y] 3)).drew = w' := by
  refine or_two _ _ x y _ ?_ ?_
  · exact cell_new _ _ _ 0 _ rfl _ (by simp)
  · exact cell_new _ _ _ 1 _ rfl _ (by simp)

set_option maxHeartbeats 1000000 in
theorem closure_any (f u f' u' : Int) (s s' : ByteArray) (w : World) :
    Calls Try.prog 58 #[.agg #[.int .i64 f, .int .i64 u, .string s], .agg #[.int .i64 f', .int .i64 u', .string s']] w fun e w' => e = .returned (.int .i64 (cmpEd f u f' u')) ∧
      w' = (((w.alloc (.cells #[.int .i64 f, .int .i64 u, .string s] 42)).alloc (.cells #[.int .i64 f', .int .i64 u', .string s'] 42)).alloc (.cells #[.int .i64 (cmpI f f'), .int .i64 (cmpI u u')] 3)).drew := by
  go_enter Try.func58, Try.ntmps58
  go_wp2
  go_region_held3 (fun w' => w'.cell? ⟨w.heap.size, 0, none⟩ = some (.int .i64 f) ∧ w'.cell? ⟨w.heap.size, 1, none⟩ = some (.int .i64 u) ∧ w'.cell? ⟨w.heap.size + 1, 0, none⟩ = some (.int .i64 f') ∧ w'.cell? ⟨w.heap.size + 1, 1, none⟩ = some (.int .i64 u')) (go_keep)
    (first
      | (go_at_call_of 60 (Value.int .i64 f); refine (compare_any _ _ _).mono ?_; rintro e w' ⟨rfl, rfl⟩)
      | (go_at_call_of 60 (Value.int .i64 u); refine (compare_any _ _ _).mono ?_; rintro e w' ⟨rfl, rfl⟩)
      | (go_at_call 59; refine (or_at _ _ _ _ _).mono ?_; rintro e w' ⟨rfl, rfl⟩))
  all_goals go_wp2
  all_goals go_ret
  all_goals exact ⟨rfl, rfl⟩

end Go.Proofs.Ytmlkeddiagmedaa
