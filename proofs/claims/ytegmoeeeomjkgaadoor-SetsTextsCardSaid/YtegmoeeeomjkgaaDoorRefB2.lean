import Derived.Test.YtegmoeeeomjkgaaDoorRefB
namespace Go.Proofs.YtegmoeeeomjkgaaDoor
open Go Go.RowKit

set_option maxRecDepth 100000 in
set_option maxHeartbeats 1000000 in
theorem rof_any (a : Option Addr) (cap : Nat) (l : List Nat) (w : World) (hd : RowY w a l) (hs : SmallY l) (hl : l.length ≤ 281474976710656) :
    Calls Tryd.prog 15 #[.slice a l.length cap] w fun e w' => e = .returned (vset (ofL l)) ∧ Below w.heap.size w w' := by
  have HD := Lib.hid hd
  clear hd
  go_enter Tryd.func15, Tryd.ntmps15
  go_wp2
  go_loopw [4] (fun i wr => ∃ (k : Nat), i = .int .i64 k ∧ k ≤ l.length ∧ Hid (Blk wr w.heap.size 29 zcs) ∧ Hid (Blk wr (w.heap.size + 1) 29 (cset (ofL (l.take k)))) ∧ Hid (Below w.heap.size w wr))
    (fun i _ => l.length - (intOf i).toNat)
  case atStart =>
    refine ⟨0, rfl, Nat.zero_le _, ?_, ?_, ?_⟩
    · exact (Blk.new w 29 zcs).alloc _
    · have h := Blk.new (w.alloc (.cells #[.int .u64 0, .int .u64 0, .int .u64 0, .int .u64 0] 29)) 29 #[.int .u64 0, .int .u64 0, .int .u64 0, .int .u64 0]
      rw [World.size_alloc] at h
      rw [List.take_zero, show ofL [] = 0#256 from rfl, cset_zero]
      exact h
    · exact ((Below.refl _ w).alloc (Nat.le_refl _) _).alloc (by simp) _
  case round =>
    obtain ⟨k, rfl, hk, hZ, hU, hB⟩ := hrel
    by_cases hlt : k < l.length
    · have HX : Hid (l[k]? = some l[k]) := Lib.hid (List.getElem?_eq_getElem hlt)
      have x1 := hs l[k] (List.getElem_mem hlt)
      obtain ⟨x, hx⟩ : ∃ x, l[k] = x := ⟨_, rfl⟩
      rw [hx] at HX x1
      obtain ⟨u, hu⟩ : ∃ u, u = ofL (l.take k) := ⟨_, rfl⟩
      rw [← hu] at hU
      have HN : Hid (ofL (l.take (k + 1)) = withB u x) := by
        refine Lib.hid ?_
        rw [List.take_add_one, HX.out, hu]
        exact ofL_snoc _ _
      clear hx hu
      obtain ⟨b, off, rfl, e0⟩ := HD.out k _ HX.out
      have bl : b < w.heap.size := lt_of_cell e0
      have r0 : wr.cell? ⟨b, off + k, none⟩ = some (.int .u8 x) := (hB.out.cell (p := ⟨b, _, none⟩) bl).trans e0
      have c0 : wr.cell? ⟨w.heap.size + 1, 0, none⟩ = some (.int .u64 (wdI u 0)) := hU.out.cell 0
      have c1 : wr.cell? ⟨w.heap.size + 1, 1, none⟩ = some (.int .u64 (wdI u 1)) := hU.out.cell 1
      have c2 : wr.cell? ⟨w.heap.size + 1, 2, none⟩ = some (.int .u64 (wdI u 2)) := hU.out.cell 2
      have c3 : wr.cell? ⟨w.heap.size + 1, 3, none⟩ = some (.int .u64 (wdI u 3)) := hU.out.cell 3
      have HW0 := rwith_any u x x1
      obtain ⟨u2, hu2⟩ : ∃ u2, u2 = withB u x := ⟨_, rfl⟩
      rw [← hu2] at HW0 HN
      clear hu2
      unfold vset at HW0
      have HW := fun w' => Lib.hid (HW0 w')
      clear HW0
      have hlt2 : w.heap.size + 1 < wr.heap.size := hU.out.lt
      clear e0
      have hcv : IntKind.i64.wrap (x : Int) = (x : Int) := IntWalk.i64_in _ (by omega)
      have HK : Hid (∀ w', Below wr.drew.heap.size wr.drew w' → Blk w' (w.heap.size + 1) 29 (cset u) ∧ w'.cell? ⟨b, off + k, none⟩ = some (.int .u8 x)) := fun w' hB1 =>
        ⟨Blk.below (Blk.drew hU.out) hB1 hU.out.lt, (hB1.cell (p := ⟨b, off + k, none⟩) (show b < wr.drew.heap.size from Nat.lt_of_lt_of_le bl hB.out.size)).trans r0⟩
      go_wp2
      go_region_with (first | (go_at_call 42; (with_reducible refine (HW _).out.mono ?_); rintro e w' ⟨rfl, hB1⟩; have hU1 := (HK.out w' hB1).1; have e0 := (HK.out w' hB1).2; have d0 : w'.cell? ⟨w.heap.size + 1, 0, none⟩ = some (.int .u64 (wdI u 0)) := hU1.cell 0; have d1 : w'.cell? ⟨w.heap.size + 1, 1, none⟩ = some (.int .u64 (wdI u 1)) := hU1.cell 1; have d2 : w'.cell? ⟨w.heap.size + 1, 2, none⟩ = some (.int .u64 (wdI u 2)) := hU1.cell 2; have d3 : w'.cell? ⟨w.heap.size + 1, 3, none⟩ = some (.int .u64 (wdI u 3)) := hU1.cell 3; have fz : ∀ i, w'.frozen? ⟨w.heap.size + 1, i, none⟩ = false := hU1.frozen))
      all_goals
        have hU2 := Lib.hid hU1
        have hZ2 := Lib.hid (Blk.below (Blk.drew hZ.out) hB1 hZ.out.lt)
        have hB2 := Lib.hid (below_at (hB.out.drew.trans (hB1.mono (show w.heap.size ≤ wr.drew.heap.size from hB.out.size))) (Nat.le_refl _))
        clear hU1 hB1 hU hZ hB
        go_wp2
        go_roundw
        case rel =>
          refine ⟨k + 1, by go_num, by omega, ?_, ?_, ?_⟩
          · exact (((hZ2.out.other (by simp) _).other (by simp) _).other (by simp) _).other (by simp) _
          · rw [HN.out]; exact hU2.out.set4 _ _ _ _
          · exact below_set4 hB2.out (by omega) _ _ _ _
        case measure => simp [intOf]; omega
    · obtain rfl : k = l.length := by omega
      rw [List.take_length] at hU
      obtain ⟨u, hu⟩ : ∃ u, u = ofL l := ⟨_, rfl⟩
      rw [← hu] at hU
      have c0 : wr.cell? ⟨w.heap.size + 1, 0, none⟩ = some (.int .u64 (wdI u 0)) := Blk.cell hU.out 0
      have c1 : wr.cell? ⟨w.heap.size + 1, 1, none⟩ = some (.int .u64 (wdI u 1)) := Blk.cell hU.out 1
      have c2 : wr.cell? ⟨w.heap.size + 1, 2, none⟩ = some (.int .u64 (wdI u 2)) := Blk.cell hU.out 2
      have c3 : wr.cell? ⟨w.heap.size + 1, 3, none⟩ = some (.int .u64 (wdI u 3)) := Blk.cell hU.out 3
      have z0 : wr.cell? ⟨w.heap.size, 0, none⟩ = some (.int .u64 0) := Blk.cell hZ.out 0
      have z1 : wr.cell? ⟨w.heap.size, 1, none⟩ = some (.int .u64 0) := Blk.cell hZ.out 1
      have z2 : wr.cell? ⟨w.heap.size, 2, none⟩ = some (.int .u64 0) := Blk.cell hZ.out 2
      have z3 : wr.cell? ⟨w.heap.size, 3, none⟩ = some (.int .u64 0) := Blk.cell hZ.out 3
      have fz : ∀ i, wr.frozen? ⟨w.heap.size, i, none⟩ = false := Blk.frozen hZ.out
      have HU := Lib.hid hu
      clear hu
      go_wp2
      have y := Blk.set4 hZ.out (.int .u64 (wdI u 0)) (.int .u64 (wdI u 1)) (.int .u64 (wdI u 2)) (.int .u64 (wdI u 3))
      have y0 := y.cell 0
      have y1 := y.cell 1
      have y2 := y.cell 2
      have y3 := y.cell 3
      refine bodyPost_ret (v := .agg #[.int .u64 (wdI u 0), .int .u64 (wdI u 1), .int .u64 (wdI u 2), .int .u64 (wdI u 3)]) (by simp [results, Tryd.results15, go_sem, y0, y1, y2, y3]) rfl ⟨by rw [← HU.out]; rfl, ?_⟩
      exact below_set4 hB.out (Nat.le_refl _) _ _ _ _
end Go.Proofs.YtegmoeeeomjkgaaDoor
