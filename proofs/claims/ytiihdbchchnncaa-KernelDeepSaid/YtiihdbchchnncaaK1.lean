import Derived.Test.YtiihdbchchnncaaT5
import Derived.Test.YtiihdbchchnncaaT6
import Derived.Test.YtiihdbchchnncaaR1
import Derived.Test.YtiihdbchchnncaaP7
import Derived.Test.YtiihdbchchnncaaC11
namespace Go.Proofs.Ytiihdbchchnncaa
open Go Go.RowKit

def lx : BS := 1#256 <<< 120
def la : BS := 1#256 <<< 97
theorem lx_w : vset lx = .agg #[.int .u64 0, .int .u64 72057594037927936, .int .u64 0, .int .u64 0] := by
  unfold vset
  rw [show wdI lx 0 = 0 by decide +kernel, show wdI lx 1 = 72057594037927936 by decide +kernel, show wdI lx 2 = 0 by decide +kernel, show wdI lx 3 = 0 by decide +kernel]
theorem la_w : vset la = .agg #[.int .u64 0, .int .u64 8589934592, .int .u64 0, .int .u64 0] := by
  unfold vset
  rw [show wdI la 0 = 0 by decide +kernel, show wdI la 1 = 8589934592 by decide +kernel, show wdI la 2 = 0 by decide +kernel, show wdI la 3 = 0 by decide +kernel]

set_option maxRecDepth 100000 in
set_option maxHeartbeats 2000000 in
theorem letter_x (w : World) : Calls Try.prog 27 #[.int .u8 120] w fun e w' => e = .returned (vset lx) ∧ Below w.heap.size w w' := by
  rw [lx_w]
  have hb := (Blk.new w 66 #[.int .u64 0, .int .u64 72057594037927936, .int .u64 0, .int .u64 0]).alloc (.cells #[.int .u64 0, .int .u64 72057594037927936, .int .u64 0, .int .u64 0] 66)
  have hB : Below w.heap.size w ((w.alloc (.cells #[.int .u64 0, .int .u64 72057594037927936, .int .u64 0, .int .u64 0] 66)).alloc (.cells #[.int .u64 0, .int .u64 72057594037927936, .int .u64 0, .int .u64 0] 66)) := ((Below.refl _ _).alloc (Nat.le_refl _) _).alloc (by simp) _
  have HB := Lib.hid hB
  have q0 := hb.cell 0
  have q1 := hb.cell 1
  have q2 := hb.cell 2
  have q3 := hb.cell 3
  simp only [List.getElem?_toArray, List.getElem?_cons_zero, List.getElem?_cons_succ] at q0 q1 q2 q3
  clear hb hB
  go_enter Try.func27, Try.ntmps27
  go_wp2
  refine bodyPost_ret (v := .agg #[.int .u64 0, .int .u64 72057594037927936, .int .u64 0, .int .u64 0]) (by simp [results, Try.results27, go_sem, q0, q1, q2, q3]) rfl ⟨rfl, ?_⟩
  exact HB.out

set_option maxRecDepth 100000 in
set_option maxHeartbeats 2000000 in
theorem letter_a (w : World) : Calls Try.prog 27 #[.int .u8 97] w fun e w' => e = .returned (vset la) ∧ Below w.heap.size w w' := by
  rw [la_w]
  have hb := (Blk.new w 66 #[.int .u64 0, .int .u64 8589934592, .int .u64 0, .int .u64 0]).alloc (.cells #[.int .u64 0, .int .u64 8589934592, .int .u64 0, .int .u64 0] 66)
  have hB : Below w.heap.size w ((w.alloc (.cells #[.int .u64 0, .int .u64 8589934592, .int .u64 0, .int .u64 0] 66)).alloc (.cells #[.int .u64 0, .int .u64 8589934592, .int .u64 0, .int .u64 0] 66)) := ((Below.refl _ _).alloc (Nat.le_refl _) _).alloc (by simp) _
  have HB := Lib.hid hB
  have q0 := hb.cell 0
  have q1 := hb.cell 1
  have q2 := hb.cell 2
  have q3 := hb.cell 3
  simp only [List.getElem?_toArray, List.getElem?_cons_zero, List.getElem?_cons_succ] at q0 q1 q2 q3
  clear hb hB
  go_enter Try.func27, Try.ntmps27
  go_wp2
  refine bodyPost_ret (v := .agg #[.int .u64 0, .int .u64 8589934592, .int .u64 0, .int .u64 0]) (by simp [results, Try.results27, go_sem, q0, q1, q2, q3]) rfl ⟨rfl, ?_⟩
  exact HB.out

set_option maxRecDepth 100000 in
set_option maxHeartbeats 2000000 in
theorem sortSym_any (i : Int) (w : World) : Calls Try.prog 30 #[.int .i64 i] w fun e w' => e = .returned (symV ⟨1, 0, i⟩) ∧ Below w.heap.size w w' := by
  have hz : symV ⟨1, 0, i⟩ = .agg #[.int .i64 1, .int .u64 0, .int .u64 0, .int .u64 0, .int .u64 0, .int .i64 i] := by
    unfold symV symC
    rw [show wdI (0 : BS) 0 = 0 by decide +kernel, show wdI (0 : BS) 1 = 0 by decide +kernel, show wdI (0 : BS) 2 = 0 by decide +kernel, show wdI (0 : BS) 3 = 0 by decide +kernel]
  rw [hz]
  have hb := Blk.new w 68 #[.int .i64 1, .int .u64 0, .int .u64 0, .int .u64 0, .int .u64 0, .int .i64 i]
  have HB : Hid (Below w.heap.size w (w.alloc (.cells #[.int .i64 1, .int .u64 0, .int .u64 0, .int .u64 0, .int .u64 0, .int .i64 i] 68))) := Lib.hid ((Below.refl _ _).alloc (Nat.le_refl _) _)
  have q0 := hb.cell 0
  have q1 := hb.cell 1
  have q2 := hb.cell 2
  have q3 := hb.cell 3
  have q4 := hb.cell 4
  have q5 := hb.cell 5
  simp only [List.getElem?_toArray, List.getElem?_cons_zero, List.getElem?_cons_succ] at q0 q1 q2 q3 q4 q5
  clear hb hz
  go_enter Try.func30, Try.ntmps30
  go_wp2
  refine bodyPost_ret (v := .agg #[.int .i64 1, .int .u64 0, .int .u64 0, .int .u64 0, .int .u64 0, .int .i64 i]) (by simp [results, Try.results30, go_sem, q0, q1, q2, q3, q4, q5]) rfl ⟨rfl, HB.out⟩

/-- The grammar that the laws know. -/
def G0 : GramM := ⟨none, 0, [⟨#[83]⟩, ⟨#[65]⟩, ⟨#[66]⟩], none, 0,
  [⟨0, none, 0, [⟨1, 0, 1⟩], ⟨#[]⟩, 0, false, false, -1⟩, ⟨0, none, 0, [⟨0, lx, 0⟩, ⟨1, 0, 0⟩], ⟨#[]⟩, 0, false, false, -1⟩, ⟨1, none, 0, [⟨0, la, 0⟩], ⟨#[]⟩, 0, false, false, -1⟩, ⟨2, none, 0, [⟨1, 0, 2⟩], ⟨#[]⟩, 0, false, false, -1⟩],
  0, none, 0, [], none, 0, []⟩
theorem G0_check : checkB G0 = true := by decide +kernel
theorem G0_find : findN ⟨#[65]⟩ G0.sorts = some 1 := by decide +kernel
end Go.Proofs.Ytiihdbchchnncaa
