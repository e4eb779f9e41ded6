import Derived.Test.YtegmoeeeomjkgaaDoorRefC
import Derived.Test.YtegmoeeeomjkgaaDoorT3
namespace Go.Proofs.YtegmoeeeomjkgaaDoor
open Go Go.RowKit

/-- A set's bytes below k, rising. -/
def bytesTo (s : BS) (k : Nat) : List Nat := (List.range' 0 k).filter (fun j => s.getLsbD j)
theorem bytesTo_succ (s : BS) (k : Nat) : bytesTo s (k + 1) = if s.getLsbD k = true then bytesTo s k ++ [k] else bytesTo s k := by
  unfold bytesTo
  rw [List.range'_1_concat, List.filter_append]
  cases h : s.getLsbD k <;> simp [h]
theorem bytesTo_len (s : BS) (k : Nat) : (bytesTo s k).length ≤ k := by
  unfold bytesTo
  refine Nat.le_trans (List.length_filter_le _ _) ?_
  rw [List.length_range']
  exact Nat.le_refl _

set_option maxRecDepth 100000 in
set_option maxHeartbeats 4000000 in
theorem rbytes_any (s : BS) (w : World) :
    Calls Tryd.prog 21 #[vset s] w fun e W' => ∃ v, e = .returned v ∧ W'.ownsRow w.heap.size 5 1 v (bytesL s).length ((bytesL s).map byteV) ∧ Below w.heap.size w W' := by
  obtain ⟨i0, hi, hz0, hz1, hz2⟩ := info_parts Tryd.info5
  have HL : Hid (∀ k, bytesTo s (k + 1) = if s.getLsbD k = true then bytesTo s k ++ [k] else bytesTo s k) := bytesTo_succ s
  have HLen : Hid (∀ k, (bytesTo s k).length ≤ k) := bytesTo_len s
  have HZ0 : Hid (bytesTo s 0 = []) := Lib.hid rfl
  have HE : Hid (bytesTo s 256 = bytesL s) := Lib.hid rfl
  generalize bytesTo s = L at HL HZ0 HE HLen
  unfold vset
  go_enter Tryd.func21, Tryd.ntmps21
  go_wp2
  go_loopw [3, 4] (fun q i wr => ∃ (k : Nat), i = .int .i64 k ∧ k ≤ 256 ∧ Hid (Blk wr w.heap.size 29 (cset s)) ∧ Hid (wr.ownsRow w.heap.size 5 1 q (L k).length ((L k).map byteV)) ∧ Hid (Below w.heap.size w wr))
    (fun _ i _ => 256 - (intOf i).toNat)
  case atStart =>
    refine ⟨0, rfl, Nat.zero_le _, Blk.new w 29 _, ?_, (Below.refl _ w).alloc (Nat.le_refl _) _⟩
    rw [HZ0.out]
    exact World.ownsRow_nil _ _ _ _
  case round =>
    obtain ⟨k, rfl, hk, hA, hO, hB⟩ := hrel
    by_cases hlt : k < 256
    · have HN := Lib.hid (HL.out k)
      have hll := HLen.out k
      have HH := fun w' => Lib.hid (rhas_any s k hlt w')
      obtain ⟨l, hl⟩ : ∃ l, l = L k := ⟨_, rfl⟩
      rw [← hl] at HN hO hll
      clear hl
      have c0 : wr.cell? ⟨w.heap.size, 0, none⟩ = some (.int .u64 (wdI s 0)) := hA.out.cell 0
      have c1 : wr.cell? ⟨w.heap.size, 1, none⟩ = some (.int .u64 (wdI s 1)) := hA.out.cell 1
      have c2 : wr.cell? ⟨w.heap.size, 2, none⟩ = some (.int .u64 (wdI s 2)) := hA.out.cell 2
      have c3 : wr.cell? ⟨w.heap.size, 3, none⟩ = some (.int .u64 (wdI s 3)) := hA.out.cell 3
      cases hbit : s.getLsbD k with
      | false =>
        rw [hbit] at HN HH
        have HN2 : Hid (L (k + 1) = l) := Lib.hid HN.out
        clear hbit HN
        go_wp2_with fail
        refine (HH _).out.mono ?_
        rintro e w1 ⟨rfl, hB1⟩
        have hA1 := Lib.hid (hA.out.below hB1 hA.out.lt)
        have hO1 := Lib.hid (own_below hO.out hB1 (Nat.le_refl _))
        have hBB := Lib.hid (hB.out.trans (hB1.mono hB.out.size))
        clear hA hO hB hB1 c0 c1 c2 c3 HH
        go_wp2
        go_roundw
        case rel =>
          refine ⟨k + 1, by go_num, by omega, hA1, ?_, hBB⟩
          rw [HN2.out]; exact hO1
        case measure => simp [intOf]; omega
      | true =>
        rw [hbit] at HN HH
        have HN2 : Hid (L (k + 1) = l ++ [k]) := Lib.hid HN.out
        clear hbit HN
        have hcv : IntKind.u8.wrap (k : Int) = (k : Int) := by rw [IntKind.wrap_u8']; omega
        go_wp2_with fail
        refine (HH _).out.mono ?_
        rintro e w1 ⟨rfl, hB1⟩
        have hA1 := Lib.hid (hA.out.below hB1 hA.out.lt)
        have hO1 := Lib.hid (own_below hO.out hB1 (Nat.le_refl _))
        have hBB := Lib.hid (hB.out.trans (hB1.mono hB.out.size))
        have hsz1 : w.heap.size ≤ w1.heap.size := hBB.out.size
        clear hA hO hB hB1 c0 c1 c2 c3 HH
        go_wp2_with (at_builtin; refine wpList_append_own _ rfl _ _ 23 rfl w.heap.size 5 i0 (.int .u8 0) 1 1 Tryd.underlying23 hi hz0 hz1 hz2 rfl (by decide) _ _ _ rfl (hO1.out.alloc _) ⟨w1.heap.size, 0, none⟩ 1 1 [.int .u8 k] rfl rfl (cell_one_new _ _ _) (by simp [Value.oneCell']) (by unfold maxLen; omega) (by omega) (by simp; omega) ?_; intro v4 w4 hown4 hgrow _)
        have hf4 := own_fin (hO1.out.alloc _) ((Lib.OthersKept.refl 5 none w1).alloc _) ((Below.refl w.heap.size w1).alloc hsz1 _) hsz1 hgrow
        have hA4 := Lib.hid (blk_others hA1.out (by decide) hf4.1)
        have hB4 := Lib.hid (hBB.out.trans hf4.2)
        have hO4 := Lib.hid hown4
        clear hA1 hO1 hBB hf4 hown4 hgrow
        go_roundw
        case rel =>
          refine ⟨k + 1, by go_num, by omega, hA4, ?_, hB4⟩
          rw [HN2.out, List.length_append, List.map_append]; exact hO4
        case measure => simp [intOf]; omega
    · obtain rfl : k = 256 := by omega
      rw [HE.out] at hO
      go_wp2
      go_ret
      exact ⟨u3, rfl, hO.out, hB.out⟩
end Go.Proofs.YtegmoeeeomjkgaaDoor
