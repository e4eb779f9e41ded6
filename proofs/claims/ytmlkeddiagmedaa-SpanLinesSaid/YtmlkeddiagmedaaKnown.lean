import Derived.Test.YtmlkeddiagmedaaKnown0
namespace Go.Proofs.Ytmlkeddiagmedaa
open Go.RowKit

theorem rowEd_two {w : World} {b t : Nat} {x y : Ed} (h : Blk w b t #[.int .i64 x.1, .int .i64 x.2.1, .string x.2.2, .int .i64 y.1, .int .i64 y.2.1, .string y.2.2]) : RowEd w (some ⟨b, 0, none⟩) [x, y] := by
  intro i z hz
  refine ⟨b, 0, rfl, ?_⟩
  have hi := (List.getElem?_eq_some_iff.1 hz).1
  have : i = 0 ∨ i = 1 := by simp at hi; omega
  rcases this with rfl | rfl
  · simp at hz; subst hz
    exact ⟨h.cell 0, h.cell 1, h.cell 2⟩
  · simp at hz; subst hz
    exact ⟨h.cell 3, h.cell 4, h.cell 5⟩

theorem rowEd_one {w : World} {b t : Nat} {x : Ed} (h : Blk w b t #[.int .i64 x.1, .int .i64 x.2.1, .string x.2.2]) : RowEd w (some ⟨b, 0, none⟩) [x] := by
  intro i z hz
  refine ⟨b, 0, rfl, ?_⟩
  have hi := (List.getElem?_eq_some_iff.1 hz).1
  have : i = 0 := by simp at hi; omega
  subst this
  simp at hz; subst hz
  exact ⟨h.cell 0, h.cell 1, h.cell 2⟩

set_option maxHeartbeats 1000000 in
theorem known_any (w : World) : Calls Try.prog 9 #[] w fun e w' => e = .returned (.bool true) ∧ Below w.heap.size w w' := by
  go_enter Try.func9, Try.ntmps9
  go_wp2_with fail
  refine (kAt _).mono ?_
  rintro e w1 ⟨rfl, hB1⟩
  go_wp2_with fail
  refine (kPlace _).mono ?_
  rintro e w2 ⟨rfl, hB2⟩
  have bP2 := (Blk.new w1 23 #[.int .i64 2, .int .i64 2]).below hB2 (by simp)
  have hA2 : Below w.heap.size w w2 := (hB1.alloc hB1.size _).trans (hB2.mono (by have := hB1.size; simp; omega))
  have BP2 := Lib.hid bP2
  have HA2 := Lib.hid hA2
  have l2 := bP2.lt
  clear hB1 hB2 bP2 hA2
  have H3 := Lib.hid (kApply1 w2.heap.size 2 (w2.alloc (.cells #[.int .i64 4, .int .i64 4, .string ⟨#[89]⟩, .int .i64 1, .int .i64 2, .string ⟨#[88]⟩] 42)) (rowEd_two (Blk.new w2 42 _)))
  go_wp2_with fail
  refine H3.out.mono ?_
  rintro e w3 ⟨rfl, hB3⟩
  have bP3 := (BP2.out.alloc _).below hB3 (by simp; omega)
  have hA3 : Below w.heap.size w w3 := (HA2.out.alloc HA2.out.size _).trans (hB3.mono (by have := HA2.out.size; simp; omega))
  have BP3 := Lib.hid bP3
  have HA3 := Lib.hid hA3
  have l3 := bP3.lt
  clear hB3 bP3 hA3 H3 BP2 HA2 l2
  have H4 := Lib.hid (kApply2 w3.heap.size 2 (w3.alloc (.cells #[.int .i64 0, .int .i64 2, .string ⟨#[]⟩, .int .i64 1, .int .i64 3, .string ⟨#[]⟩] 42)) (rowEd_two (Blk.new w3 42 _)))
  go_wp2_with fail
  refine H4.out.mono ?_
  rintro e w4 ⟨rfl, hB4⟩
  have bP4 := (BP3.out.alloc _).below hB4 (by simp; omega)
  have hA4 : Below w.heap.size w w4 := (HA3.out.alloc HA3.out.size _).trans (hB4.mono (by have := HA3.out.size; simp; omega))
  have BP4 := Lib.hid bP4
  have HA4 := Lib.hid hA4
  have l4 := bP4.lt
  clear hB4 bP4 hA4 H4 BP3 HA3 l3
  have H5 := Lib.hid (moved_known (some ⟨w4.heap.size, 0, none⟩) 1 (w4.alloc (.cells #[.int .i64 1, .int .i64 2, .string ⟨#[88, 89, 90]⟩] 42)) (rowEd_one (x := xyzEd) (Blk.new w4 42 _)))
  go_wp2_with fail
  refine H5.out.mono ?_
  rintro e w5 ⟨rfl, hB5⟩
  have bP5 := (BP4.out.alloc _).below hB5 (by simp; omega)
  have hA5 : Below w.heap.size w w5 := (HA4.out.alloc HA4.out.size _).trans (hB5.mono (by have := HA4.out.size; simp; omega))
  have BP5 := Lib.hid bP5
  have HA5 := Lib.hid hA5
  have l5 := bP5.lt
  clear hB5 bP5 hA5 H5 BP4 HA4 l4
  have H6 := Lib.hid (kDiff w5)
  go_wp2_with fail
  refine H6.out.mono ?_
  rintro e w6 ⟨rfl, hB6⟩
  have bP6 := BP5.out.below hB6 l5
  have c0 : w6.cell? ⟨w1.heap.size, 0, none⟩ = some (.int .i64 2) := bP6.cell 0
  have c1 : w6.cell? ⟨w1.heap.size, 1, none⟩ = some (.int .i64 2) := bP6.cell 1
  have hA6 : Below w.heap.size w w6 := HA5.out.trans (hB6.mono HA5.out.size)
  have l6 := bP6.lt
  have HA6 := Lib.hid hA6
  have h6s := hA6.size
  clear hB6 hA6 H6 BP5 HA5 l5 bP6
  go_wp2
  go_ret
  exact ⟨rfl, HA6.out.alloc h6s _⟩

end Go.Proofs.Ytmlkeddiagmedaa
