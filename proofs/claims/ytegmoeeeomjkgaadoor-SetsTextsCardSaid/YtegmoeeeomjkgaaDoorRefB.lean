import Derived.Deep.RegionWith
import Derived.Deep.RegionHeld3
import Derived.Test.YtegmoeeeomjkgaaDoorRefA
import Derived.Test.YtegmoeeeomjkgaaDoorU
namespace Go.Proofs.YtegmoeeeomjkgaaDoor
open Go Go.RowKit

/-- Bytes as they lie behind a slice. -/
def RowY (w : World) (a : Option Addr) (l : List Nat) : Prop :=
  ∀ (i : Nat) (x : Nat), l[i]? = some x → ∃ b off, a = some ⟨b, off, none⟩ ∧ w.cell? ⟨b, off + i, none⟩ = some (.int .u8 x)
def SmallY (l : List Nat) : Prop := ∀ x ∈ l, x < 256
theorem RowY.below {w w' : World} {a : Option Addr} {l : List Nat} {n : Nat} (h : RowY w a l) (hB : Below n w w') (hn : w.heap.size ≤ n) : RowY w' a l := by
  intro i x hx
  obtain ⟨b, off, e, h1⟩ := h i x hx
  have := lt_of_cell h1
  exact ⟨b, off, e, (hB.cell (p := ⟨b, _, none⟩) (show b < n by omega)).trans h1⟩

/-- The set of just these bytes. -/
def ofL (l : List Nat) : BS := l.foldl withB 0#256
theorem ofL_snoc (l : List Nat) (x : Nat) : ofL (l ++ [x]) = withB (ofL l) x := by simp [ofL, List.foldl_append]

set_option maxRecDepth 100000 in
set_option maxHeartbeats 4000000 in
theorem of_any (a : Option Addr) (cap : Nat) (l : List Nat) (w : World) (hd : RowY w a l) (hs : SmallY l) (hl : l.length ≤ 281474976710656) :
    Calls Tryd.prog 13 #[.slice a l.length cap] w fun e w' => e = .returned (vset (ofL l)) ∧ Below w.heap.size w w' := by
  have HD := Lib.hid hd
  clear hd
  go_enter Tryd.func13, Tryd.ntmps13
  go_wp2
  go_loopw [8] (fun i wr => ∃ (k : Nat), i = .int .i64 k ∧ k ≤ l.length ∧ Hid (Blk wr w.heap.size 29 zcs) ∧ Hid (Blk wr (w.heap.size + 1) 29 (cset (ofL (l.take k)))) ∧ Hid (Below w.heap.size w wr))
    (fun i _ => l.length - (intOf i).toNat)
  case atStart =>
    refine ⟨0, rfl, Nat.zero_le _, ?_, ?_, ?_⟩
    · exact (Blk.new w 29 zcs).alloc _
    · have h := Blk.new (w.alloc (.cells #[.int .u64 0, .int .u64 0, .int .u64 0, .int .u64 0] 29)) 29 #[.int .u64 0, .int .u64 0, .int .u64 0, .int .u64 0]
      rw [World.size_alloc] at h
      rw [List.take_zero, show ofL [] = 0#256 from rfl, cset_zero]
      exact h
    · exact ((Below.refl _ w).alloc (Nat.le_refl _) _).alloc (by simp) _
  case round =>
    obtain ⟨k, rfl, hk, hZ, hU, hB⟩ := hrel
    by_cases hlt : k < l.length
    · have HX : Hid (l[k]? = some l[k]) := Lib.hid (List.getElem?_eq_getElem hlt)
      have x1 := hs l[k] (List.getElem_mem hlt)
      obtain ⟨x, hx⟩ : ∃ x, l[k] = x := ⟨_, rfl⟩
      rw [hx] at HX x1
      obtain ⟨u, hu⟩ : ∃ u, u = ofL (l.take k) := ⟨_, rfl⟩
      rw [← hu] at hU
      have HN : Hid (ofL (l.take (k + 1)) = withB u x) := by
        refine Lib.hid ?_
        rw [List.take_add_one, HX.out, hu]
        exact ofL_snoc _ _
      clear hx hu
      obtain ⟨b, off, rfl, e0⟩ := HD.out k _ HX.out
      have bl : b < w.heap.size := lt_of_cell e0
      have r0 : wr.cell? ⟨b, off + k, none⟩ = some (.int .u8 x) := (hB.out.cell (p := ⟨b, _, none⟩) bl).trans e0
      have c0 : wr.cell? ⟨w.heap.size + 1, 0, none⟩ = some (.int .u64 (wdI u 0)) := hU.out.cell 0
      have c1 : wr.cell? ⟨w.heap.size + 1, 1, none⟩ = some (.int .u64 (wdI u 1)) := hU.out.cell 1
      have c2 : wr.cell? ⟨w.heap.size + 1, 2, none⟩ = some (.int .u64 (wdI u 2)) := hU.out.cell 2
      have c3 : wr.cell? ⟨w.heap.size + 1, 3, none⟩ = some (.int .u64 (wdI u 3)) := hU.out.cell 3
      have HW := Lib.hid (with_any u x x1)
      have hlt2 : w.heap.size + 1 < wr.heap.size := hU.out.lt
      clear e0
      go_wp2_with fail
      refine (HW.out _).mono ?_
      rintro e w1 ⟨rfl, hB1⟩
      have hZ1 := Lib.hid (hZ.out.below hB1 (by omega))
      have hU1 := Lib.hid (hU.out.below hB1 (by omega))
      have hBB := Lib.hid (hB.out.trans (hB1.mono (by have := hB.out.size; omega)))
      clear hZ hU hB hB1 c0 c1 c2 c3 HW r0
      have c0 : w1.cell? ⟨w.heap.size + 1, 0, none⟩ = some (.int .u64 (wdI u 0)) := hU1.out.cell 0
      have c1 : w1.cell? ⟨w.heap.size + 1, 1, none⟩ = some (.int .u64 (wdI u 1)) := hU1.out.cell 1
      have c2 : w1.cell? ⟨w.heap.size + 1, 2, none⟩ = some (.int .u64 (wdI u 2)) := hU1.out.cell 2
      have c3 : w1.cell? ⟨w.heap.size + 1, 3, none⟩ = some (.int .u64 (wdI u 3)) := hU1.out.cell 3
      have fz : ∀ i, w1.frozen? ⟨w.heap.size + 1, i, none⟩ = false := hU1.out.frozen
      unfold vset
      go_wp2
      go_roundw
      case rel =>
        refine ⟨k + 1, by go_num, by omega, ?_, ?_, ?_⟩
        · exact (((hZ1.out.other (by simp) _).other (by simp) _).other (by simp) _).other (by simp) _
        · rw [HN.out]; exact hU1.out.set4 _ _ _ _
        · exact below_set4 hBB.out (by omega) _ _ _ _
      case measure => simp [intOf]; omega
    · obtain rfl : k = l.length := by omega
      rw [List.take_length] at hU
      obtain ⟨u, hu⟩ : ∃ u, u = ofL l := ⟨_, rfl⟩
      rw [← hu] at hU
      have c0 : wr.cell? ⟨w.heap.size + 1, 0, none⟩ = some (.int .u64 (wdI u 0)) := Blk.cell hU.out 0
      have c1 : wr.cell? ⟨w.heap.size + 1, 1, none⟩ = some (.int .u64 (wdI u 1)) := Blk.cell hU.out 1
      have c2 : wr.cell? ⟨w.heap.size + 1, 2, none⟩ = some (.int .u64 (wdI u 2)) := Blk.cell hU.out 2
      have c3 : wr.cell? ⟨w.heap.size + 1, 3, none⟩ = some (.int .u64 (wdI u 3)) := Blk.cell hU.out 3
      have z0 : wr.cell? ⟨w.heap.size, 0, none⟩ = some (.int .u64 0) := Blk.cell hZ.out 0
      have z1 : wr.cell? ⟨w.heap.size, 1, none⟩ = some (.int .u64 0) := Blk.cell hZ.out 1
      have z2 : wr.cell? ⟨w.heap.size, 2, none⟩ = some (.int .u64 0) := Blk.cell hZ.out 2
      have z3 : wr.cell? ⟨w.heap.size, 3, none⟩ = some (.int .u64 0) := Blk.cell hZ.out 3
      have fz : ∀ i, wr.frozen? ⟨w.heap.size, i, none⟩ = false := Blk.frozen hZ.out
      have HU := Lib.hid hu
      clear hu
      go_wp2
      have y := Blk.set4 hZ.out (.int .u64 (wdI u 0)) (.int .u64 (wdI u 1)) (.int .u64 (wdI u 2)) (.int .u64 (wdI u 3))
      have y0 := y.cell 0
      have y1 := y.cell 1
      have y2 := y.cell 2
      have y3 := y.cell 3
      refine bodyPost_ret (v := .agg #[.int .u64 (wdI u 0), .int .u64 (wdI u 1), .int .u64 (wdI u 2), .int .u64 (wdI u 3)]) (by simp [results, Tryd.results13, go_sem, y0, y1, y2, y3]) rfl ⟨by rw [← HU.out]; rfl, ?_⟩
      exact below_set4 hB.out (Nat.le_refl _) _ _ _ _

end Go.Proofs.YtegmoeeeomjkgaaDoor
