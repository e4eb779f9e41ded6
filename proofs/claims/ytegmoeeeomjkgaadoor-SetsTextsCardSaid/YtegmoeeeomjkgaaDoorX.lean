import Derived.Test.YtegmoeeeomjkgaaDoorU
namespace Go.Proofs.YtegmoeeeomjkgaaDoor
open Go Go.RowKit

theorem rowB_two {w : World} {B t : Nat} {x y : BS} (h : Blk w B t #[.int .u64 (wdI x 0), .int .u64 (wdI x 1), .int .u64 (wdI x 2), .int .u64 (wdI x 3), .int .u64 (wdI y 0), .int .u64 (wdI y 1), .int .u64 (wdI y 2), .int .u64 (wdI y 3)]) : RowB w (some ⟨B, 0, none⟩) [x, y] := by
  intro i z hz
  have hi := (List.getElem?_eq_some_iff.1 hz).1
  have : i = 0 ∨ i = 1 := by simp at hi; omega
  rcases this with rfl | rfl
  · simp at hz; subst hz
    exact ⟨B, 0, rfl, h.cell 0, h.cell 1, h.cell 2, h.cell 3⟩
  · simp at hz; subst hz
    exact ⟨B, 0, rfl, h.cell 4, h.cell 5, h.cell 6, h.cell 7⟩

theorem rowB_three {w : World} {B t : Nat} {x y z : BS} (h : Blk w B t #[.int .u64 (wdI x 0), .int .u64 (wdI x 1), .int .u64 (wdI x 2), .int .u64 (wdI x 3), .int .u64 (wdI y 0), .int .u64 (wdI y 1), .int .u64 (wdI y 2), .int .u64 (wdI y 3), .int .u64 (wdI z 0), .int .u64 (wdI z 1), .int .u64 (wdI z 2), .int .u64 (wdI z 3)]) : RowB w (some ⟨B, 0, none⟩) [x, y, z] := by
  intro i s hz
  have hi := (List.getElem?_eq_some_iff.1 hz).1
  have : i = 0 ∨ i = 1 ∨ i = 2 := by simp at hi; omega
  rcases this with rfl | rfl | rfl
  · simp at hz; subst hz
    exact ⟨B, 0, rfl, h.cell 0, h.cell 1, h.cell 2, h.cell 3⟩
  · simp at hz; subst hz
    exact ⟨B, 0, rfl, h.cell 4, h.cell 5, h.cell 6, h.cell 7⟩
  · simp at hz; subst hz
    exact ⟨B, 0, rfl, h.cell 8, h.cell 9, h.cell 10, h.cell 11⟩

theorem join_call (x y : BS) (w : World) (n : Nat) (hn : n = w.heap.size) : Calls Tryd.prog 20 #[.slice (some ⟨n, 0, none⟩) 2 2] (w.alloc (.cells #[.int .u64 (wdI x 0), .int .u64 (wdI x 1), .int .u64 (wdI x 2), .int .u64 (wdI x 3), .int .u64 (wdI y 0), .int .u64 (wdI y 1), .int .u64 (wdI y 2), .int .u64 (wdI y 3)] 29)) fun e w' => e = .returned (vset (x ||| y)) ∧ Below w.heap.size w w' := by
  subst hn
  have h := union_any (some ⟨w.heap.size, 0, none⟩) 2 [x, y] _ (rowB_two (Blk.new w 29 _)) (by simp)
  have e : unionL [x, y] = x ||| y := by simp [unionL]
  rw [e] at h
  exact h.mono fun _ _ ⟨a, b⟩ => ⟨a, ((Below.refl _ w).alloc (Nat.le_refl _) _).trans (b.mono (by simp))⟩

theorem join3_call (x y z : BS) (w : World) (n : Nat) (hn : n = w.heap.size) : Calls Tryd.prog 20 #[.slice (some ⟨n, 0, none⟩) 3 3] (w.alloc (.cells #[.int .u64 (wdI x 0), .int .u64 (wdI x 1), .int .u64 (wdI x 2), .int .u64 (wdI x 3), .int .u64 (wdI y 0), .int .u64 (wdI y 1), .int .u64 (wdI y 2), .int .u64 (wdI y 3), .int .u64 (wdI z 0), .int .u64 (wdI z 1), .int .u64 (wdI z 2), .int .u64 (wdI z 3)] 29)) fun e w' => e = .returned (vset (x ||| y ||| z)) ∧ Below w.heap.size w w' := by
  subst hn
  have h := union_any (some ⟨w.heap.size, 0, none⟩) 3 [x, y, z] _ (rowB_three (Blk.new w 29 _)) (by simp)
  have e : unionL [x, y, z] = x ||| y ||| z := by simp [unionL]
  rw [e] at h
  exact h.mono fun _ _ ⟨a, b⟩ => ⟨a, ((Below.refl _ w).alloc (Nat.le_refl _) _).trans (b.mono (by simp))⟩

set_option maxRecDepth 100000 in
set_option maxHeartbeats 2000000 in
theorem join_any (x y : BS) (w : World) : Calls Tryd.prog 40 #[vset x, vset y] w fun e w' => e = .returned (vset (x ||| y)) ∧ Below w.heap.size w w' := by
  have HJ := fun w' n hn => Lib.hid (join_call x y w' n hn)
  obtain ⟨u, hu⟩ : ∃ u, u = x ||| y := ⟨_, rfl⟩
  rw [← hu] at HJ ⊢
  clear hu
  unfold vset
  go_enter Tryd.func40, Tryd.ntmps40
  go_wp2_with fail
  refine (HJ _ _ (by simp)).out.mono ?_
  rintro e w1 ⟨rfl, hB⟩
  have hz0 := Blk.new ((w.alloc (.cells (cset x) 29)).alloc (.cells (cset y) 29)) 29 zcs
  have hz1 := hz0.below hB (by simp)
  rw [World.size_alloc, World.size_alloc] at hz1
  have z0 : w1.cell? ⟨w.heap.size + 1 + 1, 0, none⟩ = some (.int .u64 0) := hz1.cell 0
  have z1 : w1.cell? ⟨w.heap.size + 1 + 1, 1, none⟩ = some (.int .u64 0) := hz1.cell 1
  have z2 : w1.cell? ⟨w.heap.size + 1 + 1, 2, none⟩ = some (.int .u64 0) := hz1.cell 2
  have z3 : w1.cell? ⟨w.heap.size + 1 + 1, 3, none⟩ = some (.int .u64 0) := hz1.cell 3
  have fz : ∀ i, w1.frozen? ⟨w.heap.size + 1 + 1, i, none⟩ = false := hz1.frozen
  have HZ1 := Lib.hid hz1
  have HB := Lib.hid (((((Below.refl _ w).alloc (Nat.le_refl _) (.cells (cset x) 29)).alloc (by simp) (.cells (cset y) 29)).alloc (by simp; omega) (.cells zcs 29)).trans (hB.mono (by simp; omega)))
  clear hz0 hz1 hB HJ
  unfold vset
  go_wp2
  have hb2 := Blk.set4 HZ1.out (.int .u64 (wdI u 0)) (.int .u64 (wdI u 1)) (.int .u64 (wdI u 2)) (.int .u64 (wdI u 3))
  have d0 := hb2.cell 0
  have d1 := hb2.cell 1
  have d2 := hb2.cell 2
  have d3 := hb2.cell 3
  refine bodyPost_ret (v := .agg #[.int .u64 (wdI u 0), .int .u64 (wdI u 1), .int .u64 (wdI u 2), .int .u64 (wdI u 3)]) (by simp [results, Tryd.results40, go_sem, d0, d1, d2, d3]) rfl ⟨rfl, ?_⟩
  exact below_set4 HB.out (by omega) _ _ _ _
end Go.Proofs.YtegmoeeeomjkgaaDoor
