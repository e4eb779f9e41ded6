import Derived.Test.YtegmoeeeomjkgaaDoorRefB
namespace Go.Proofs.YtegmoeeeomjkgaaDoor
open Go Go.RowKit

/-- The bytes below k of which f says so. -/
def lowB (f : Nat → Bool) : Nat → BS
  | 0 => 0#256
  | k + 1 => if f k then withB (lowB f k) k else lowB f k

theorem lowB_bit (f : Nat → Bool) (k j : Nat) (hk : k ≤ 256) : (lowB f k).getLsbD j = (decide (j < k) && f j) := by
  induction k with
  | zero => simp [lowB]
  | succ k ih =>
    have ih := ih (by omega)
    unfold lowB
    by_cases e : j = k
    · subst e
      cases hf : f j with
      | true => simp only [if_true]; rw [withB_bit _ _ _ (by omega)]; simp
      | false => simp only [Bool.false_eq_true, if_false]; rw [ih]; simp
    · have h1 : (j < k + 1) ↔ (j < k) := by omega
      cases hf : f k with
      | true => simp only [if_true]; rw [withB_bit _ _ _ (by omega), ih]; simp [h1, show ¬ k = j from fun h => e h.symm]
      | false => simp only [Bool.false_eq_true, if_false]; rw [ih]; simp [h1]

theorem lowB_eq (f : Nat → Bool) (s : BS) (h : ∀ j, j < 256 → f j = s.getLsbD j) : lowB f 256 = s := by
  apply BitVec.eq_of_getLsbD_eq; intro j hj
  rw [lowB_bit _ _ _ (Nat.le_refl _), h j hj]; simp [hj]

set_option maxRecDepth 100000 in
set_option maxHeartbeats 4000000 in
theorem rnot_any (s : BS) (w : World) : Calls Tryd.prog 19 #[vset s] w fun e w' => e = .returned (vset (~~~s)) ∧ Below w.heap.size w w' := by
  have HF : Hid (lowB (fun j => !s.getLsbD j) 256 = ~~~s) := lowB_eq _ _ fun j hj => by rw [BitVec.getLsbD_not]; simp [hj]
  obtain ⟨ns, hns⟩ : ∃ ns, ns = ~~~s := ⟨_, rfl⟩
  rw [← hns] at HF ⊢
  clear hns
  have HL : Hid (∀ k, lowB (fun j => !s.getLsbD j) (k + 1) = if (!s.getLsbD k) = true then withB (lowB (fun j => !s.getLsbD j) k) k else lowB (fun j => !s.getLsbD j) k) := fun k => rfl
  have HZ0 : Hid (lowB (fun j => !s.getLsbD j) 0 = 0#256) := Lib.hid rfl
  generalize lowB (fun j => !s.getLsbD j) = L at HF HL HZ0
  unfold vset
  go_enter Tryd.func19, Tryd.ntmps19
  go_wp2
  go_loopw [4] (fun i wr => ∃ (k : Nat), i = .int .i64 k ∧ k ≤ 256 ∧ Hid (Blk wr w.heap.size 29 (cset s)) ∧ Hid (Blk wr (w.heap.size + 1) 29 zcs) ∧ Hid (Blk wr (w.heap.size + 1 + 1) 29 (cset (L k))) ∧ Hid (Below w.heap.size w wr))
    (fun i _ => 256 - (intOf i).toNat)
  case atStart =>
    refine ⟨0, rfl, Nat.zero_le _, ?_, ?_, ?_, ?_⟩
    · exact ((Blk.new w 29 _).alloc _).alloc _
    · have h := (Blk.new (w.alloc (.cells (cset s) 29)) 29 zcs).alloc (.cells zcs 29)
      rw [World.size_alloc] at h
      exact h
    · have h := Blk.new ((w.alloc (.cells (cset s) 29)).alloc (.cells zcs 29)) 29 zcs
      rw [World.size_alloc, World.size_alloc] at h
      rw [HZ0.out, cset_zero]
      exact h
    · exact (((Below.refl _ w).alloc (Nat.le_refl _) _).alloc (by simp) _).alloc (by simp; omega) _
  case round =>
    obtain ⟨k, rfl, hk, hA, hZ, hU, hB⟩ := hrel
    by_cases hlt : k < 256
    · have HN := Lib.hid (HL.out k)
      have HH := fun w' => Lib.hid (rhas_any s k hlt w')
      have HW := fun w' => Lib.hid (rwith_any (L k) k hlt w')
      obtain ⟨u, hu⟩ : ∃ u, u = L k := ⟨_, rfl⟩
      rw [← hu] at HN HW hU
      clear hu
      have c0 : wr.cell? ⟨w.heap.size, 0, none⟩ = some (.int .u64 (wdI s 0)) := hA.out.cell 0
      have c1 : wr.cell? ⟨w.heap.size, 1, none⟩ = some (.int .u64 (wdI s 1)) := hA.out.cell 1
      have c2 : wr.cell? ⟨w.heap.size, 2, none⟩ = some (.int .u64 (wdI s 2)) := hA.out.cell 2
      have c3 : wr.cell? ⟨w.heap.size, 3, none⟩ = some (.int .u64 (wdI s 3)) := hA.out.cell 3
      have hlt2 : w.heap.size + 1 + 1 < wr.heap.size := hU.out.lt
      cases hbit : s.getLsbD k with
      | true =>
        rw [hbit] at HN HH
        have HN2 : Hid (L (k + 1) = u) := Lib.hid HN.out
        clear hbit HN HW
        go_wp2_with fail
        refine (HH _).out.mono ?_
        rintro e w1 ⟨rfl, hB1⟩
        have hA1 := Lib.hid (hA.out.below hB1 (by omega))
        have hZ1 := Lib.hid (hZ.out.below hB1 (by omega))
        have hU1 := Lib.hid (hU.out.below hB1 (by omega))
        have hBB := Lib.hid (hB.out.trans (hB1.mono hB.out.size))
        clear hA hZ hU hB hB1 c0 c1 c2 c3 HH
        go_wp2
        go_roundw
        case rel =>
          refine ⟨k + 1, by go_num, by omega, hA1, hZ1, ?_, hBB⟩
          rw [HN2.out]; exact hU1
        case measure => simp [intOf]; omega
      | false =>
        rw [hbit] at HN HH
        have HN2 : Hid (L (k + 1) = withB u k) := Lib.hid HN.out
        clear hbit HN
        obtain ⟨u2, hu2⟩ : ∃ u2, u2 = withB u k := ⟨_, rfl⟩
        rw [← hu2] at HW HN2
        clear hu2
        go_wp2_with fail
        refine (HH _).out.mono ?_
        rintro e w1 ⟨rfl, hB1⟩
        have hA1 := Lib.hid (hA.out.below hB1 (by omega))
        have hZ1 := Lib.hid (hZ.out.below hB1 (by omega))
        have hU1 := Lib.hid (hU.out.below hB1 (by omega))
        have hBB := Lib.hid (hB.out.trans (hB1.mono hB.out.size))
        clear hA hZ hU hB hB1 c0 c1 c2 c3 HH
        have c0 : w1.cell? ⟨w.heap.size + 1 + 1, 0, none⟩ = some (.int .u64 (wdI u 0)) := hU1.out.cell 0
        have c1 : w1.cell? ⟨w.heap.size + 1 + 1, 1, none⟩ = some (.int .u64 (wdI u 1)) := hU1.out.cell 1
        have c2 : w1.cell? ⟨w.heap.size + 1 + 1, 2, none⟩ = some (.int .u64 (wdI u 2)) := hU1.out.cell 2
        have c3 : w1.cell? ⟨w.heap.size + 1 + 1, 3, none⟩ = some (.int .u64 (wdI u 3)) := hU1.out.cell 3
        have hlt3 : w.heap.size + 1 + 1 < w1.heap.size := hU1.out.lt
        go_wp2_with fail
        refine (HW _).out.mono ?_
        rintro e w2 ⟨rfl, hB2⟩
        have hA2 := Lib.hid (hA1.out.below hB2 (by omega))
        have hZ2 := Lib.hid (hZ1.out.below hB2 (by omega))
        have hU2 := Lib.hid (hU1.out.below hB2 (by omega))
        have hBC := Lib.hid (hBB.out.trans (hB2.mono hBB.out.size))
        clear hA1 hZ1 hU1 hBB hB2 c0 c1 c2 c3 HW
        have c0 : w2.cell? ⟨w.heap.size + 1 + 1, 0, none⟩ = some (.int .u64 (wdI u 0)) := hU2.out.cell 0
        have c1 : w2.cell? ⟨w.heap.size + 1 + 1, 1, none⟩ = some (.int .u64 (wdI u 1)) := hU2.out.cell 1
        have c2 : w2.cell? ⟨w.heap.size + 1 + 1, 2, none⟩ = some (.int .u64 (wdI u 2)) := hU2.out.cell 2
        have c3 : w2.cell? ⟨w.heap.size + 1 + 1, 3, none⟩ = some (.int .u64 (wdI u 3)) := hU2.out.cell 3
        have fz : ∀ i, w2.frozen? ⟨w.heap.size + 1 + 1, i, none⟩ = false := hU2.out.frozen
        unfold vset
        go_wp2
        go_roundw
        case rel =>
          refine ⟨k + 1, by go_num, by omega, ?_, ?_, ?_, ?_⟩
          · exact (((hA2.out.other (by simp; omega) _).other (by simp; omega) _).other (by simp; omega) _).other (by simp; omega) _
          · exact (((hZ2.out.other (by simp) _).other (by simp) _).other (by simp) _).other (by simp) _
          · rw [HN2.out]; exact hU2.out.set4 _ _ _ _
          · exact below_set4 hBC.out (by omega) _ _ _ _
        case measure => simp [intOf]; omega
    · obtain rfl : k = 256 := by omega
      rw [HF.out] at hU
      have c0 : wr.cell? ⟨w.heap.size + 1 + 1, 0, none⟩ = some (.int .u64 (wdI ns 0)) := Blk.cell hU.out 0
      have c1 : wr.cell? ⟨w.heap.size + 1 + 1, 1, none⟩ = some (.int .u64 (wdI ns 1)) := Blk.cell hU.out 1
      have c2 : wr.cell? ⟨w.heap.size + 1 + 1, 2, none⟩ = some (.int .u64 (wdI ns 2)) := Blk.cell hU.out 2
      have c3 : wr.cell? ⟨w.heap.size + 1 + 1, 3, none⟩ = some (.int .u64 (wdI ns 3)) := Blk.cell hU.out 3
      have z0 : wr.cell? ⟨w.heap.size + 1, 0, none⟩ = some (.int .u64 0) := Blk.cell hZ.out 0
      have z1 : wr.cell? ⟨w.heap.size + 1, 1, none⟩ = some (.int .u64 0) := Blk.cell hZ.out 1
      have z2 : wr.cell? ⟨w.heap.size + 1, 2, none⟩ = some (.int .u64 0) := Blk.cell hZ.out 2
      have z3 : wr.cell? ⟨w.heap.size + 1, 3, none⟩ = some (.int .u64 0) := Blk.cell hZ.out 3
      have fz : ∀ i, wr.frozen? ⟨w.heap.size + 1, i, none⟩ = false := Blk.frozen hZ.out
      go_wp2
      have y := Blk.set4 hZ.out (.int .u64 (wdI ns 0)) (.int .u64 (wdI ns 1)) (.int .u64 (wdI ns 2)) (.int .u64 (wdI ns 3))
      have y0 := y.cell 0
      have y1 := y.cell 1
      have y2 := y.cell 2
      have y3 := y.cell 3
      refine bodyPost_ret (v := .agg #[.int .u64 (wdI ns 0), .int .u64 (wdI ns 1), .int .u64 (wdI ns 2), .int .u64 (wdI ns 3)]) (by simp [results, Tryd.results19, go_sem, y0, y1, y2, y3]) rfl ⟨rfl, ?_⟩
      exact below_set4 hB.out (by omega) _ _ _ _
end Go.Proofs.YtegmoeeeomjkgaaDoor
