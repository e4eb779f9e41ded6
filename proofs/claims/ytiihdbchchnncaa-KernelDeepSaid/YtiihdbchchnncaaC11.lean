import Derived.Test.YtiihdbchchnncaaC9
namespace Go.Proofs.Ytiihdbchchnncaa
open Go Go.RowKit Go.Maps Go.WideMaps

theorem zero3 (w : World) : (zeroValue 3).run Try.prog w = .ok (.int .i64 0) w := by kernel_rfl

set_option maxRecDepth 100000 in
set_option maxHeartbeats 1000000 in
theorem find_call (g : GramM) (name : ByteArray) (hm : name.size ≤ 1048576) (w : World) (hg : GIn w g) (hf : Fit g) :
    Calls Try.prog 16 #[gramV g, .string name] w fun e w' => e = .returned (.tuple #[.int .i64 (((findN name g.sorts).getD 0 : Nat) : Int), .bool (findN name g.sorts).isSome]) ∧ Below w.heap.size w w' := by
  have hB1 : Below w.heap.size w (w.alloc (.cells (gramC g) 27)) := (Below.refl _ _).alloc (Nat.le_refl _) _
  have HN := Lib.hid (byName_any g.sa g.sc g.sorts hf.sorts hf.names _ (hg.sorts.belowN hB1))
  have HK := Lib.hid (keyOf_string_mk Try.underlying9 (s := name) (by unfold maxLen; omega))
  have Hat := Lib.hid (nm_at g.sorts hf.names name (.lit (.int .i64 0)) 0)
  have Hhas := Lib.hid ((nm_has g.sorts hf.names name 0).trans (find_any name g.sorts))
  have HB := Lib.hid hB1
  clear hg hf hB1 hm
  generalize findN name g.sorts = r at *
  unfold gramV gramC at *
  generalize nm 0 g.sorts = D at *
  go_enter Try.func16, Try.ntmps16
  go_wp2_with fail
  refine HN.out.mono ?_
  rintro e w3 ⟨rfl, hown, hB3⟩
  have HB3 := Lib.hid (HB.out.trans (hB3.mono HB.out.size))
  clear hB3
  rw [World.size_alloc] at hown
  go_wp2_with (first
    | (at_lookup; refine wpList_lookup_own_ok_int _ rfl _ _ 89 rfl 9 3 .i64 key9 Try.underlying89 Try.underlying3 (zero3 _) _ _ D rfl hown _ _ rfl HK.out ?_; intro c hat hwc)
    | go_in)
  have hc : c = ((r.getD 0 : Nat) : Int) := by
    rw [Hat.out] at hat
    cases r with
    | none => simp at hat; simpa using hat.symm
    | some i => simp at hat; simpa using hat.symm
  have hh := Hhas.out
  rw [hh]
  subst hc
  go_wp2
  go_ret2
  exact ⟨rfl, HB3.out⟩
end Go.Proofs.Ytiihdbchchnncaa
